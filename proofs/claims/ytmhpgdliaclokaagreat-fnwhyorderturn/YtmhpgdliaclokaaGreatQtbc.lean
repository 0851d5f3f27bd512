/- What was seen, turned as the threads are, plainly. No condition. And what goes with it: TsMath, TsFact, TsI, TsTs. -/
import Derived.Test.YtmhpgdliaclokaaGreatRows
import Derived.Test.YtmhpgdliaclokaaGreatQtbb
namespace Go.Proofs.YtmhpgdliaclokaaGreat
section
namespace M
def parts:List (List D)→List Int→List (List Int)
 | [],_=>[]
 | t::ll,l=>l.take (cnt reads t)::parts ll (l.drop (cnt reads t))
theorem parts_len (ll:List (List D)):∀ l,(parts ll l).length=ll.length:=by
 induction ll with
 | nil=>intro l;rfl
 | cons t ll ih=>intro l;simp [parts,ih]
theorem tot_take (f:Int→Bool) (ll:List (List D)) (n:Nat) (h:n < ll.length):tot f (ll.take (n+1))=tot f (ll.take n)+cnt f ll[n]:=by
 have app:∀ a b:List (List D),tot f (a++b)=tot f a+tot f b:=fun a b=>by
  induction a with
  | nil=>simp [tot]
  | cons x a ih=>simp only [List.cons_append,tot,ih];omega
 rw [List.take_succ_eq_append_getElem h,app];simp [tot]
theorem parts_get (ll:List (List D)):∀ (l:List Int) (n:Nat) (h:n < ll.length) (h':n < (parts ll l).length),(parts ll l)[n]=(l.drop (tot reads (ll.take n))).take (cnt reads ll[n]):=by
 induction ll with
 | nil=>intro l n h;simp at h
 | cons t ll ih =>
  intro l n h h'
  cases n with
  | zero=>simp [parts,tot]
  | succ n =>
   have:=ih (l.drop (cnt reads t)) n (by simpa using h) (by rw [parts_len];simpa using h)
   simp only [parts,List.getElem_cons_succ,List.take_succ_cons,tot]
   rw [this,List.drop_drop]
theorem tot_take_le (f:Int→Bool) (ll:List (List D)) (n:Nat):tot f (ll.take n)≤tot f ll:=by
 have app:∀ a b:List (List D),tot f (a++b)=tot f a+tot f b:=fun a b=>by
  induction a with
  | nil=>simp [tot]
  | cons x a ih=>simp only [List.cons_append,tot,ih];omega
 have:=app (ll.take n) (ll.drop n)
 rw [List.take_append_drop] at this
 omega
def turnSeen (ll:List (List D)) (l1 l2 row:List Int):Option (List Int × List Int):=if seenOk ll l1 l2&&rowN row ll.length then some ((pick [] row (parts ll l1)).flatten,l2) else none
theorem turnSeen_bad {ll:List (List D)} {l1 l2 row:List Int} (h:seenOk ll l1 l2=false):turnSeen ll l1 l2 row=none:=by simp [turnSeen,h]
theorem turnSeen_row {ll:List (List D)} {l1 l2 row:List Int} (h:rowN row ll.length=false):turnSeen ll l1 l2 row=none:=by simp [turnSeen,h]
theorem turnSeen_yes {ll:List (List D)} {l1 l2 row:List Int} (h:seenOk ll l1 l2=true) (h2:rowN row ll.length=true):turnSeen ll l1 l2 row=some ((pick [] row (parts ll l1)).flatten,l2):=by simp [turnSeen,h,h2]
theorem seenOk_len {ll:List (List D)} {l1 l2:List Int} (h:seenOk ll l1 l2=true):prog ll=true∧l1.length=tot reads ll∧l2.length=3:=by
 by_cases h1:(l1.length:Int)=nreads ll
 ·by_cases h2:l2.length=3
  ·cases hp:prog ll
   ·rw [nreads_no hp] at h1;omega
   ·rw [nreads_ok hp] at h1;exact ⟨rfl,by omega,h2⟩
  ·rw [seenOk_2 h2] at h;cases h
 ·rw [seenOk_1 h1] at h;cases h
def lens:List (List Int)→Nat
 | []=>0
 | r::rs=>r.length+lens rs
theorem lens_take (rs:List (List Int)) (n:Nat) (h:n < rs.length):lens (rs.take (n+1))=lens (rs.take n)+rs[n].length:=by
 have app:∀ a b:List (List Int),lens (a++b)=lens a+lens b:=fun a b=>by
  induction a with
  | nil=>simp [lens]
  | cons x a ih=>simp only [List.cons_append,lens,ih];omega
 rw [List.take_succ_eq_append_getElem h,app];simp [lens]
theorem lens_flat (rs:List (List Int)):rs.flatten.length=lens rs:=by
 induction rs with
 | nil=>rfl
 | cons r rs ih=>simp [lens,ih]
theorem flat_take (rs:List (List Int)) (n:Nat) (h:n < rs.length):(rs.take (n+1)).flatten=(rs.take n).flatten++rs[n]:=by
 rw [List.take_succ_eq_append_getElem h];simp only [List.flatten_append,List.flatten_cons,List.flatten_nil,List.append_nil]
end M
end
section
namespace M
def Fit:List (List D)→List (List Int)→Prop
 | [],[]=>True
 | t::q,r::rs=>r.length=cnt reads t∧Fit q rs
 | _,_=>False
theorem parts_fit (ll:List (List D)):∀ l:List Int,l.length=tot reads ll→Fit ll (parts ll l):=by
 induction ll with
 | nil=>intro l _;trivial
 | cons t ll ih =>
  intro l h
  simp only [tot] at h
  exact ⟨by rw [List.length_take];omega,ih _ (by rw [List.length_drop];omega)⟩
theorem fit_tot (q:List (List D)):∀ rs:List (List Int),Fit q rs→rs.flatten.length=tot reads q:=by
 induction q with
 | nil =>
  intro rs h
  cases rs with
  | nil=>rfl
  | cons r rs=>exact h.elim
 | cons t q ih =>
  intro rs h
  cases rs with
  | nil=>exact h.elim
  | cons r rs =>
   obtain ⟨h1,h2⟩:=h
   have e:=ih rs h2
   simp only [List.flatten_cons,List.length_append,tot]
   omega
theorem flat_parts (ll:List (List D)):∀ l:List Int,l.length=tot reads ll→(parts ll l).flatten=l:=by
 induction ll with
 | nil=>intro l h;simp only [tot] at h;rw [List.length_eq_zero_iff.1 h];rfl
 | cons t ll ih =>
  intro l h
  simp only [tot] at h
  simp only [parts,List.flatten_cons]
  rw [ih _ (by rw [List.length_drop];omega),List.take_append_drop]
theorem fit_pick {ll:List (List D)} {row:List Int} (rs:List (List Int)) (h3:ll.length≤3) (hr:rowN row ll.length=true) (h:Fit ll rs) :
  Fit (pick [] row ll) (pick [] row rs)∧pick [] (back row) (pick [] row rs)=rs:=by
 match ll,rs,h3,hr,h with
 | [],[],_,hr,_=>obtain rfl:=row0 hr;exact ⟨trivial,rfl⟩
 | [a],[x],_,hr,h =>
  obtain rfl:=row1 hr
  obtain ⟨h1,_⟩:=h
  exact ⟨by simp [pick,Fit,h1],rfl⟩
 | [a,b],[x,y],_,hr,h =>
  obtain ⟨h1,h2,_⟩:=h
  rcases row2 hr with rfl | rfl<;>exact ⟨by simp [pick,Fit,h1,h2],rfl⟩
 | [a,b,c],[x,y,z],_,hr,h =>
  obtain ⟨h1,h2,h4,_⟩:=h
  rcases row3 hr with rfl | rfl | rfl | rfl | rfl | rfl<;>exact ⟨by simp [pick,Fit,h1,h2,h4],rfl⟩
end M
end
section
open Go.RowKit
def Ixs (w:World) (vs:List Value) (rows:List (List Int)):Prop:=vs.length=rows.length∧∀ i (h1:i < rows.length) (h2:i < vs.length),∃ a' b' o' c',vs[i]=.slice a' rows[i].length c'∧IntS w a' b' o' rows[i]
structure ISS (w:World) (a:Option Addr) (b o:Nat) (rows:List (List Int)):Prop where
 addr:0 < rows.length→a=some ⟨b,o,none⟩
 row:∀ i (h:i < rows.length),∃ a' b' o' c',w.cell? ⟨b,o+i,none⟩=some (.slice a' rows[i].length c')∧IntS w a' b' o' rows[i]
theorem ISS.below {w w':World} {a:Option Addr} {B b o:Nat} {rows:List (List Int)} (h:ISS w a b o rows) (hb:Below B w w') (hB:w.heap.size≤B):ISS w' a b o rows :=
 ⟨h.addr,fun i hi=>by
  obtain ⟨a',b',o',c',hc,hr⟩:=h.row i hi
  exact ⟨a',b',o',c',(hb.cell (p:=⟨b,o+i,none⟩) (Nat.lt_of_lt_of_le (World.block_lt_of_cell? _ _ hc) hB)).trans hc,hr.below hb hB⟩⟩
theorem Ixs.nil (w:World):Ixs w [] []:=⟨rfl,fun _ h=>absurd h (Nat.not_lt_zero _)⟩
theorem Ixs.below {w w':World} {vs:List Value} {rows:List (List Int)} {B:Nat} (h:Ixs w vs rows) (hb:Below B w w') (hB:w.heap.size≤B):Ixs w' vs rows :=
 ⟨h.1,fun i h1 h2=>by obtain ⟨a',b',o',c',e,hd⟩:=h.2 i h1 h2;exact ⟨a',b',o',c',e,hd.below hb hB⟩⟩
theorem Ixs.snoc {w:World} {vs:List Value} {rows:List (List Int)} {a:Option Addr} {b o c:Nat} {l:List Int} (h:Ixs w vs rows) (hd:IntS w a b o l):Ixs w (vs++[.slice a l.length c]) (rows++[l]):=by
 have hl:=h.1
 refine ⟨by simp [hl],fun i h1 h2=>?_⟩
 by_cases hi:i < rows.length
 ·rw [List.getElem_append_left (by omega),List.getElem_append_left hi]
  exact h.2 i hi (by omega)
 ·have:i=rows.length:=by simp at h1;omega
  subst this
  have e1:(rows++[l])[rows.length]=l:=by simp
  have e2:(vs++[Value.slice a l.length c])[rows.length]=.slice a l.length c:=by
   rw [List.getElem_append_right (by omega)]
   simp [hl]
  rw [e1,e2]
  exact ⟨a,b,o,c,rfl,hd⟩
theorem Ixs.ss {w:World} {B:Nat} {v:Value} {vs:List Value} {rows:List (List Int)} (h:Ixs w vs rows) (ho:w.ownsRow B 26 1 v rows.length vs):∃ a g c,v=.slice a rows.length c∧ISS w a g 0 rows:=by
 have hl:=h.1
 rcases ho.2 with ⟨hv,hn⟩ | ⟨g,cap,cur,hv,hg,hh,r⟩
 ·have:rows=[]:=List.length_eq_zero_iff.1 hn
  subst this
  exact ⟨none,0,0,hv,⟨fun h=>absurd h (Nat.lt_irrefl _),fun i hi=>absurd hi (Nat.not_lt_zero _)⟩⟩
 ·refine ⟨_,g,cap,hv,⟨fun _=>rfl,fun i hi=>?_⟩⟩
  have hc:=ho.cells (g:=g) (by rw [hv];rfl) i vs[i] (List.getElem?_eq_getElem (by omega))
  rw [Go.WideShapes.add_plain] at hc
  obtain ⟨a',b',o',c',e,hd⟩:=h.2 i hi (by omega)
  rw [e] at hc
  exact ⟨a',b',o',c',hc,hd⟩
theorem Tryz.infoIs:(Tryz.prog.info? 26).map (fun i=>(i.zero,i.size,i.bytes))=some (some (.slice none 0 0),1,24):=by kernel_rfl
set_option maxHeartbeats 1000000 in
set_option maxRecDepth 100000 in
theorem growI_any (n:Nat) (w:World) (hn:n≤1000) :
  Calls Tryz.prog 133 #[.slice none 0 0,.int .i64 n] w fun e w'=>∃ v,e=.returned v∧w'.ownsRow w.heap.size 3 1 v 0 []∧Below w.heap.size w w':=by
 obtain ⟨i0,hi,hz0,hz1,hz2⟩:=info_parts Tryz.infoInt
 have h1:¬ ((n:Int) < 0):=by omega
 rcases Nat.eq_zero_or_pos n with h0 | hpos
 ·subst h0
  go_enter Tryz.func133,Tryz.ntmps133
  go_wp2_with fail
  go_ret
  exact ⟨_,rfl,World.ownsRow_nil _ _ _ _,Below.refl _ _⟩
 ·have h4:(0:Int) < n:=by omega
  have hrz:∀ ty,(Builtin.append_ #[26,3] ty #[.slice none 0 0,.int .i64 n]).run Tryz.prog w=.ok (.slice (some ⟨w.heap.size,0,none⟩) n (grownCap w n 0 3)) (w.drew.alloc (.cells (#[]++Builtin.zeroCells (Value.int .i64 0).cells n++Builtin.zeroCells (Value.int .i64 0).cells (grownCap w n 0 3 - n)) 3)):=fun ty=>by
   have h:=Lib.run_append_grow_zeros (P:=Tryz.prog) w 26 3 ty 3 i0 (.int .i64 0) .i64 .i64 Tryz.underlying26 Tryz.underlying3 hi hz0 none 0 0 [] (run_firstCells_none w.drew i0.size 0 0 0) n hpos (by rw [hz1];decide) (by omega) (by omega) (by rw [hz2];omega) (by rw [hz2];simp [Builtin.nextslicecap,hpos];omega)
   simpa using h
  have hG:n≤grownCap w n 0 3:=grownCap_ge w _ _ _
  have hG2:=grownCap_le_maxLen w n 0 3 (by unfold maxLen;omega)
  generalize grownCap w n 0 3=G at *
  have hsz:(#[]++Builtin.zeroCells (Value.int .i64 0).cells n++Builtin.zeroCells (Value.int .i64 0).cells (G - n)).size=G * 1:=by
   simp [Builtin.zeroCells,Value.cells];omega
  generalize #[]++Builtin.zeroCells (Value.int .i64 0).cells n++Builtin.zeroCells (Value.int .i64 0).cells (G - n)=Z at *
  have hG3:(G:Int)≤9223372036854775807:=by unfold maxLen at hG2;omega
  go_enter Tryz.func133,Tryz.ntmps133
  go_wp2_with (at_builtin;refine Lib.wpList_append_run _ rfl _ _ _ _ rfl _ _ rfl rfl _ _ (hrz _) ?_)
  go_ret
  exact ⟨_,rfl,World.ownsRow_made w.drew Z G (Nat.le_refl _) hG2 hsz,(Below.refl w.heap.size w).drew.alloc (Nat.le_refl _) _⟩
set_option maxHeartbeats 2000000 in
set_option maxRecDepth 100000 in
theorem concatI_any (a:Option Addr) (b o c:Nat) (rows:List (List Int)) (w:World) (hl:rows.length≤1000) (hs:M.lens rows≤1000) (h:ISS w a b o rows) :
  Calls Tryz.prog 72 #[.slice a rows.length c] w fun e w'=>∃ v,e=.returned v∧w'.ownsRow w.heap.size 3 1 v (M.lens rows) (nums rows.flatten)∧Below w.heap.size w w':=by
 obtain ⟨i0,hi,hz0,hz1,hz2⟩:=info_parts Tryz.infoInt
 have hle:∀ n,M.lens (rows.take n)≤M.lens rows:=fun n=>by
  have app:∀ a b:List (List Int),M.lens (a++b)=M.lens a+M.lens b:=fun a b=>by
   induction a with
   | nil=>simp [M.lens]
   | cons x a ih=>simp only [List.cons_append,M.lens,ih];omega
  have:=app (rows.take n) (rows.drop n)
  rw [List.take_append_drop] at this
  omega
 go_enter Tryz.func72,Tryz.ntmps72
 go_wp2_with fail
 go_loopw [3,11] (fun s3 s11 wr=>∃ n:Nat,s11=.int .i64 n∧n≤rows.length∧s3=.int .i64 (M.lens (rows.take n):Nat)∧wr=w) (fun _ s11 _=>rows.length - (intOf s11).toNat)
 case atStart=>exact ⟨0,rfl,Nat.zero_le _,rfl,rfl⟩
 case round =>
  obtain ⟨n,rfl,hn,rfl,rfl⟩:=hrel
  by_cases hlt:n < rows.length
  ·obtain ⟨rfl⟩:=h.addr (by omega)
   obtain ⟨a',b',o',c',hc,hd⟩:=h.row n hlt
   have HT:Hid (M.lens (rows.take (n+1))=M.lens (rows.take n)+rows[n].length):=M.lens_take rows n hlt
   have hb1:=hle (n+1)
   rw [HT.out] at hb1
   generalize rows[n]=r at *
   generalize M.lens (rows.take n)=T at *
   have i1:(n:Int) < rows.length:=by omega
   have hge:¬ ((T:Int)+r.length < 0):=by omega
   go_wp2_with fail
   exact ⟨⟨n+1,by go_num,by omega,by rw [HT.out];go_num,trivial⟩,by simp [intOf];omega⟩
  ·have i1:¬ (n:Int) < rows.length:=by omega
   have hT:=hle n
   generalize M.lens (rows.take n)=T at *
   go_wp2_with fail
   refine (growI_any T wr (by omega)).mono ?_
   rintro e w1 ⟨v1,rfl,hown1,b1⟩
   go_wp2_with fail
   obtain ⟨wo,hwo⟩:∃ wo,wo=wr:=⟨_,rfl⟩
   subst hwo
   go_loopw [6,27] (fun s6 s27 wi=>∃ n:Nat,s27=.int .i64 n∧n≤rows.length∧wi.ownsRow wo.heap.size 3 1 s6 (rows.take n).flatten.length (nums (rows.take n).flatten)∧Below wo.heap.size wo wi) (fun _ s27 _=>rows.length - (intOf s27).toNat)
   case atStart=>exact ⟨0,rfl,Nat.zero_le _,hown1,b1⟩
   case round =>
    obtain ⟨k,rfl,hk,hown,hbel⟩:=hrel
    have hbs:=hbel.size
    by_cases hkt:k < rows.length
    ·obtain ⟨rfl⟩:=h.addr (by omega)
     obtain ⟨a',b',o',c',hc0,hd⟩:=h.row k hkt
     have hc:=(hbel.cell (p:=⟨b,o+k,none⟩) (World.block_lt_of_cell? _ _ hc0)).trans hc0
     have HF:Hid ((rows.take (k+1)).flatten=(rows.take k).flatten++rows[k]):=M.flat_take rows k hkt
     have hfl:(rows.take (k+1)).flatten.length≤1000:=by rw [M.lens_flat];have:=hle (k+1);omega
     rw [HF.out,List.length_append] at hfl
     generalize rows[k]=r at *
     generalize (rows.take k).flatten=fl at *
     have i2:(k:Int) < rows.length:=by omega
     clear hc0
     rcases Nat.eq_zero_or_pos r.length with hz | hz
     ·have hZ:Hid (r.length=0):=hz
      clear hz
      go_wp2_with (at_builtin;refine wpList_append_zero rfl (.tmp 31) (.tmp 32) 26 rfl (some 33) rfl 3 i0 Tryz.underlying26 hi rfl hown a' r.length c' hZ.out rfl ?_)
      go_wp2_with fail
      have hr0:r=[]:=List.length_eq_zero_iff.1 hZ.out
      exact ⟨⟨k+1,by go_num,by omega,by rw [HF.out,hr0,List.append_nil];exact hown,hbel⟩,by simp [intOf];omega⟩
     ·obtain ⟨rfl⟩:=hd.addr hz
      go_wp2_with (at_builtin;refine wpList_append_own _ rfl (.tmp 31) (.tmp 32) 26 rfl _ 3 i0 _ 1 8 Tryz.underlying26 hi hz0 hz1 hz2 rfl (by decide) _ _ _ rfl hown ⟨b',o',none⟩ r.length c' (nums r) rfl (by simp [nums]) (nums_cells (hd.below hbel (Nat.le_refl _))) (nums_one r) (by unfold maxLen;omega) (by omega) (by omega) ?_)
      intro v3 w3 hown3 hg3 _
      have hb3:Below _ _ w3:=below_grown hbel hg3 (own_ge hown) hbel.size
      have hown4:w3.ownsRow wo.heap.size 3 1 v3 (rows.take (k+1)).flatten.length (nums (rows.take (k+1)).flatten):=by rw [HF.out,List.length_append,show nums (fl++r)=nums fl++nums r from by simp [nums]];exact hown3
      clear hown3 hg3 hown
      go_wp2_with fail
      exact ⟨⟨k+1,by go_num,by omega,hown4,hb3⟩,by simp [intOf];omega⟩
    ·have i2:¬ (k:Int) < rows.length:=by omega
     rw [List.take_of_length_le (show rows.length≤k by omega)] at hown
     go_wp2_with fail
     go_ret
     exact ⟨u6,rfl,by rw [← M.lens_flat];exact hown,hbel⟩
set_option maxHeartbeats 1000000 in
set_option maxRecDepth 100000 in
theorem turnS_any (a:Option Addr) (b o c:Nat) (row:List Int) (a2:Option Addr) (b2 o2 c2:Nat) (rows:List (List Int)) (w:World) (hl:row.length≤1048576) (hl2:rows.length≤1000) (h:IntS w a b o row) (h2:ISS w a2 b2 o2 rows) :
  Calls Tryz.prog 70 #[.slice a row.length c,.slice a2 rows.length c2] w fun e w'=>∃ v,e=.returned (.tuple #[v,.bool (M.rowN row rows.length)])∧(∃ a',(∃ c',v=.slice a' (M.turned [] row rows).length c')∧∃ g',ISS w' a' g' 0 (M.turned [] row rows))∧Below w.heap.size w w':=by
 obtain ⟨i0,hi,hz0,hz1,hz2⟩:=info_parts Tryz.infoIs
 go_enter Tryz.func70,Tryz.ntmps70
 go_wp2_with fail
 refine (numbersBelow_any rows.length w hl2).mono ?_
 rintro e w1 ⟨v1,rfl,hown1,b1⟩
 obtain ⟨a1,g1,c1,rfl,hI1,_,_⟩:=own_nums hown1
 have hbl:(M.bel rows.length).length≤1048576:=by rw [M.bel_len];omega
 have CR:=rowOf_any a b o c row a1 g1 0 c1 (M.bel rows.length) w1 hl hbl (h.below b1 (Nat.le_refl _)) hI1
 change Calls _ _ _ _ (fun e w'=>e=.returned (.bool (M.rowN row rows.length))∧_) at CR
 clear hown1 hI1 hbl
 generalize (M.bel rows.length).length=bl at *
 cases hr:M.rowN row rows.length
 ·rw [hr] at CR
  go_wp2_with (first | (go_at_call 130;refine CR.mono ?_;rintro e w2 ⟨rfl,rfl⟩))
  exact bodyPost_ret (v:=.tuple #[.slice none 0 0,.bool false]) (by simp [results,Tryz.results70,go_sem]) rfl ⟨_,by rw [hr],⟨none,⟨0,by rw [M.turned_no hr,List.length_nil]⟩,0,by rw [M.turned_no hr];exact ⟨fun h=>absurd h (Nat.lt_irrefl _),fun i hi=>absurd hi (Nat.not_lt_zero _)⟩⟩,b1⟩
 ·rw [hr] at CR
  have HR:Hid (M.rowN row rows.length=true):=hr
  clear hr
  go_wp2_with (first | (go_at_call 130;refine CR.mono ?_;rintro e w2 ⟨rfl,rfl⟩))
  go_loopw [6,17] (fun s6 s17 wr=>∃ (k:Nat) (vs:List Value),s17=.int .i64 k∧k≤row.length∧wr.ownsRow w.heap.size 26 1 s6 (M.pick [] (row.take k) rows).length vs∧Ixs w vs (M.pick [] (row.take k) rows)∧Below w.heap.size w wr) (fun _ s17 _=>row.length - (intOf s17).toNat)
  case atStart=>exact ⟨0,[],rfl,Nat.zero_le _,World.ownsRow_nil _ _ _ _,Ixs.nil _,b1⟩
  case round =>
   obtain ⟨k,vs,rfl,hk,hown,hT,hbel⟩:=hrel
   by_cases hkn:k < row.length
   ·have hkn':(k:Int) < row.length:=by omega
    obtain ⟨rfl⟩:=h.addr (by omega)
    have x1:=(h.below hbel (Nat.le_refl _)).row k hkn
    have HB:Hid (M.pick [] (row.take (k+1)) rows=M.pick [] (row.take k) rows++[rows.getD row[k].toNat []]):=M.pick_take [] row rows k hkn
    obtain ⟨r0,r1⟩:=M.rowN_get HR.out k hkn
    obtain ⟨rfl⟩:=h2.addr (by omega)
    generalize row[k]=y at *
    obtain ⟨j,rfl⟩:∃ j:Nat,y=j:=⟨y.toNat,by omega⟩
    have hj:j < rows.length:=by omega
    obtain ⟨a',b',o',c',hc,hd⟩:=h2.row j hj
    have x2:=(hbel.cell (p:=⟨b2,o2+j,none⟩) (World.block_lt_of_cell? _ _ hc)).trans hc
    have HB2:Hid (M.pick [] (row.take (k+1)) rows=M.pick [] (row.take k) rows++[rows[j]]):=by show _=_;rw [HB.out];congr 2;exact M.getD_get hj
    clear HB hc
    have hpl:(M.pick [] (row.take k) rows).length≤1048576:=by rw [M.pick_len];simp;omega
    have hbs:=hbel.size
    generalize rows[j]=z at *
    generalize M.pick [] (row.take k) rows=m at *
    go_wp2_with (at_builtin;refine wpList_append_own _ rfl (.tmp 21) (.tmp 26) 27 rfl _ 26 i0 _ 1 24 Tryz.underlying27 hi hz0 hz1 hz2 rfl (by decide) _ _ _ rfl (hown.alloc _) ⟨wr.heap.size,0,none⟩ 1 1 [.slice a' z.length c'] rfl rfl (cells_new1 _ _ _ _ (by simp)) (by simp [Value.oneCell']) (by unfold maxLen;omega) (by omega) (by simp;omega) ?_)
    intro v3 w3 hown3 hg3 _
    have hb3:Below _ _ w3:=below_grown (hbel.trans ((below1 wr _).mono hbel.size)) hg3 (own_ge hown) (by simp;omega)
    have hown4:w3.ownsRow w.heap.size 26 1 v3 (M.pick [] (row.take (k+1)) rows).length (vs++[.slice a' z.length c']):=by rw [HB2.out,List.length_append];exact hown3
    have hT4:Ixs w (vs++[.slice a' z.length c']) (M.pick [] (row.take (k+1)) rows):=by rw [HB2.out];exact hT.snoc hd
    clear hown3 hg3 hown
    go_wp2_with fail
    exact ⟨⟨k+1,_,by go_num,by omega,hown4,hT4,hb3⟩,by simp [intOf];omega⟩
   ·have htk:row.take k=row:=List.take_of_length_le (by omega)
    rw [htk] at hown hT
    have hkn':¬ (k:Int) < row.length:=by omega
    obtain ⟨a',g',c',rfl,hs⟩:=(hT.below hbel (Nat.le_refl _)).ss hown
    go_wp2_with fail
    exact bodyPost_ret (v:=.tuple #[.slice a' (M.pick [] row rows).length c',.bool true]) (by simp [results,Tryz.results70,go_sem]) rfl ⟨_,by rw [HR.out],⟨a',⟨c',by rw [M.turned_yes HR.out]⟩,g',by rw [M.turned_yes HR.out];exact hs⟩,hbel⟩
set_option maxHeartbeats 2000000 in
set_option maxRecDepth 100000 in
theorem readsBy_any (a:Option Addr) (b o c:Nat) (ll:List (List M.D)) (ra:Option Addr) (rb ro rc:Nat) (l:List Int) (w:World) (h3:ll.length≤3) (h7:∀ t∈ll,t.length≤7) (hl:l.length=M.tot M.reads ll) (hlc:l.length≤rc) (h:DoSS w a b o ll) (hI:IntS w ra rb ro l) :
  Calls Tryz.prog 71 #[.agg #[.slice a ll.length c],.slice ra l.length rc] w fun e w'=>∃ v,e=.returned v∧(∃ a',(∃ c',v=.slice a' (M.parts ll l).length c')∧∃ g',ISS w' a' g' 0 (M.parts ll l))∧Below w.heap.size w w':=by
 obtain ⟨i0,hi,hz0,hz1,hz2⟩:=info_parts Tryz.infoIs
 go_enter Tryz.func71,Tryz.ntmps71
 go_wp2_with fail
 go_loopw [1,5,12] (fun s1 s5 s12 wr=>∃ (n:Nat) (vs:List Value) (a':Option Addr) (o' c':Nat),s12=.int .i64 n∧n≤ll.length∧s1=.slice a' (l.drop (M.tot M.reads (ll.take n))).length c'∧(l.drop (M.tot M.reads (ll.take n))).length≤c'∧IntS w a' rb o' (l.drop (M.tot M.reads (ll.take n)))∧wr.ownsRow w.heap.size 26 1 s5 ((M.parts ll l).take n).length vs∧Ixs w vs ((M.parts ll l).take n)∧Below w.heap.size w wr) (fun _ _ s12 _=>ll.length - (intOf s12).toNat)
 case atStart=>exact ⟨0,[],ra,ro,rc,rfl,Nat.zero_le _,by simp [M.tot],by simpa [M.tot] using hlc,by simpa [M.tot] using hI,World.ownsRow_nil _ _ _ _,Ixs.nil _,below1 _ _⟩
 case round =>
  obtain ⟨n,vs,a',o',c',rfl,hn,rfl,hcap,hI',hown,hT,hbel⟩:=hrel
  have hbs:=hbel.size
  by_cases hlt:n < ll.length
  ·obtain ⟨rfl⟩:=h.addr (by omega)
   obtain ⟨ta,tb,to_,tc,hc0,hd0⟩:=h.row n hlt
   have hc:=(hbel.cell (p:=⟨b,o+n,none⟩) (World.block_lt_of_cell? _ _ hc0)).trans hc0
   have hd:=hd0.below hbel (Nat.le_refl _)
   have hpl:n < (M.parts ll l).length:=by rw [M.parts_len];exact hlt
   have HP:Hid ((M.parts ll l).take (n+1)=(M.parts ll l).take n++[(l.drop (M.tot M.reads (ll.take n))).take (M.cnt M.reads ll[n])]):=by show _=_;rw [List.take_succ_eq_append_getElem hpl,M.parts_get ll l n hlt]
   have HD:Hid (l.drop (M.tot M.reads (ll.take (n+1)))=(l.drop (M.tot M.reads (ll.take n))).drop (M.cnt M.reads ll[n])):=by show _=_;rw [M.tot_take M.reads ll n hlt,List.drop_drop]
   have hcn:M.cnt M.reads ll[n]≤(l.drop (M.tot M.reads (ll.take n))).length:=by
    have h1:=M.tot_take_le M.reads ll (n+1)
    rw [M.tot_take M.reads ll n hlt] at h1
    rw [List.length_drop];omega
   have ht7:=h7 _ (List.getElem_mem hlt)
   have hpn:((M.parts ll l).take n).length≤3:=by simp [M.parts_len];omega
   generalize l.drop (M.tot M.reads (ll.take n))=lr at *
   have C:=cntReads_any ta tb to_ tc ll[n] wr (by omega) hd
   generalize ll[n]=t at *
   generalize M.cnt M.reads t=m at *
   obtain ⟨pr,hpr⟩:∃ pr,lr.take m=pr:=⟨_,rfl⟩
   have hprl:pr.length=m:=by rw [← hpr];simp;omega
   have hIp:IntS w a' rb o' pr:=⟨fun hp=>hI'.addr (by omega),fun i hi=>by
    have hi':i < lr.length:=by omega
    have:=hI'.row i hi'
    have e:pr[i]=lr[i]:=by simp only [← hpr,List.getElem_take]
    rw [e];exact this⟩
   have HPr:Hid ((M.parts ll l).take (n+1)=(M.parts ll l).take n++[pr]):=by show _=_;rw [HP.out,hpr]
   have hId:IntS w (if c'=m then a' else Option.map (fun x=>x.add m) a') rb (o'+m) (lr.drop m):=⟨fun hp=>by
    rw [List.length_drop] at hp
    rw [if_neg (by omega),hI'.addr (by omega)]
    show some ((⟨rb,o',none⟩:Addr).add m)=_
    rw [Go.WideShapes.add_plain],fun i hi=>by
    rw [List.length_drop] at hi
    have:=hI'.row (m+i) (by omega)
    rw [List.getElem_drop,Nat.add_assoc];exact this⟩
   have hdl:(lr.drop m).length=lr.length - m:=List.length_drop
   have hI'':Hid (IntS w (if c'=m then a' else Option.map (fun x=>x.add m) a') rb (o'+m) (lr.drop m)):=hId
   clear hId hpr HP hI' hc0 hd0
   have hmc:(m:Int)≤c':=by omega
   have hml:(m:Int)≤lr.length:=by omega
   have i1:(n:Int) < ll.length:=by omega
   go_wp2_with fail
   refine C.mono ?_
   rintro e w1 ⟨rfl,b1⟩
   have hown1:=ownsRow_below hown b1
   have hb1:=hbel.trans (b1.mono hbel.size)
   have hbs1:=hb1.size
   go_wp2_with (at_builtin;refine wpList_append_own _ rfl (.tmp 18) (.tmp 22) 27 rfl _ 26 i0 _ 1 24 Tryz.underlying27 hi hz0 hz1 hz2 rfl (by decide) _ _ _ rfl (hown1.alloc _) ⟨w1.heap.size,0,none⟩ 1 1 [.slice a' m c'] rfl rfl (cells_new1 _ _ _ _ (by simp)) (by simp [Value.oneCell']) (by unfold maxLen;omega) (by omega) (by simp;omega) ?_)
   intro v3 w3 hown3 hg3 _
   have hb3:Below _ _ w3:=below_grown (hb1.trans ((below1 w1 _).mono hb1.size)) hg3 (own_ge hown1) (by simp;omega)
   have hown4:w3.ownsRow w.heap.size 26 1 v3 ((M.parts ll l).take (n+1)).length (vs++[.slice a' pr.length c']):=by rw [HPr.out,List.length_append,List.length_take,hprl];exact hown3
   have hT4:Ixs w (vs++[.slice a' pr.length c']) ((M.parts ll l).take (n+1)):=by rw [HPr.out];exact hT.snoc hIp
   clear hown3 hg3 hown hown1
   go_wp2_with fail
   exact ⟨⟨n+1,_,_,o'+m,c' - m,by go_num,by omega,by rw [HD.out,hdl],by rw [HD.out,hdl];omega,by rw [HD.out];exact hI''.out,hown4,hT4,hb3⟩,by simp [intOf];omega⟩
  ·have i1:¬ (n:Int) < ll.length:=by omega
   rw [List.take_of_length_le (show (M.parts ll l).length≤n by rw [M.parts_len];omega)] at hown hT
   obtain ⟨av,gv,cv,rfl,hs⟩:=(hT.below hbel (Nat.le_refl _)).ss hown
   go_wp2_with fail
   go_ret
   exact ⟨_,rfl,⟨av,⟨cv,rfl⟩,gv,hs⟩,hbel⟩
end
section
open Go.RowKit
theorem M.lens_pick (row:List Int) (n:Nat) (rows:List (List Int)) (h:∀ r∈rows,r.length≤n):M.lens (M.pick [] row rows)≤n * row.length:=by
 induction row with
 | nil=>simp [M.pick,M.lens]
 | cons i row ih =>
  have h1:(rows.getD i.toNat []).length≤n:=by
   by_cases hi:i.toNat < rows.length
   ·rw [M.getD_get hi];exact h _ (List.getElem_mem hi)
   ·rw [List.getD_eq_getElem?_getD,List.getElem?_eq_none (by omega)];simp
  have:M.lens (M.pick [] (i::row) rows)=(rows.getD i.toNat []).length+M.lens (M.pick [] row rows):=rfl
  rw [this,List.length_cons,Nat.mul_add]
  omega
theorem M.parts_small (ll:List (List M.D)):∀ l,∀ r∈M.parts ll l,r.length≤l.length:=by
 induction ll with
 | nil=>intro l r hr;cases hr
 | cons t ll ih =>
  intro l r hr
  simp only [M.parts,List.mem_cons] at hr
  rcases hr with rfl | hr
  ·rw [List.length_take];omega
  ·have:=ih _ r hr
   rw [List.length_drop] at this
   omega
theorem Slot2.bel2 {w w':World} {b:Nat} {x y:Value} (h:Slot2 w b x y) (hb:Below w.heap.size w w'):Slot2 w' b x y:=h.of (hb.block b h.lt)
structure TsAns (w w':World) (v1 v2:Value) (r1 r2:List Int):Prop where
 o1:w'.ownsRow w.heap.size 3 1 v1 r1.length (nums r1)
 o2:w'.ownsRow w.heap.size 3 1 v2 r2.length (nums r2)
 ap:∀ k,v1.ownBlock=some k→v2.ownBlock≠some k
 bel:Below w.heap.size w w'
set_option maxHeartbeats 2000000 in
set_option maxRecDepth 100000 in
set_option linter.unusedSimpArgs false in
theorem iturnSeen_any (a:Option Addr) (b o c:Nat) (ll:List (List M.D)) (hl:ll.length≤1048576) (hls:∀ t∈ll,t.length≤1048576) (s:Sn) (hs:s.Le 1048576) (hcap:s.l1.length≤s.c1) (ga:Option Addr) (gb go gc:Nat) (gs:List Int) (hgl:gs.length≤1048576) (w:World) (h:DoSS w a b o ll) (sa:s.At w) (hG:IntS w ga gb go gs) :
  Calls Tryz.prog 30 #[.agg #[.slice a ll.length c],.agg #[.slice s.a1 s.l1.length s.c1,.slice s.a2 s.l2.length s.c2],.slice ga gs.length gc] w fun e w'=>∃ v1 v2,e=.returned (.tuple #[.agg #[v1,v2],.bool (M.turnSeen ll s.l1 s.l2 gs).isSome])∧TsAns w w' v1 v2 ((M.turnSeen ll s.l1 s.l2 gs).getD ([],[])).1 ((M.turnSeen ll s.l1 s.l2 gs).getD ([],[])).2:=by
 have b3:=below3 w (.cells #[.slice a ll.length c] 25) (.cells #[.slice s.a1 s.l1.length s.c1,.slice s.a2 s.l2.length s.c2] 45) (.cells #[.slice none 0 0,.slice none 0 0] 45)
 have h1:=h.below b3 (Nat.le_refl _)
 have sa1:=sa.below b3 (Nat.le_refl _)
 have hG1:=hG.below b3 (Nat.le_refl _)
 have hX:=((Slot1.new w (.slice a ll.length c) 25).bl' (below1 _ (.cells #[.slice s.a1 s.l1.length s.c1,.slice s.a2 s.l2.length s.c2] 45))).bl' (below1 _ (.cells #[.slice none 0 0,.slice none 0 0] 45))
 have hY:Slot2 ((w.alloc (.cells #[.slice a ll.length c] 25)).alloc (.cells #[.slice s.a1 s.l1.length s.c1,.slice s.a2 s.l2.length s.c2] 45)) (w.heap.size+1) (.slice s.a1 s.l1.length s.c1) (.slice s.a2 s.l2.length s.c2):=⟨by have:=heap_alloc_new (w.alloc (.cells #[.slice a ll.length c] 25)) (.cells #[.slice s.a1 s.l1.length s.c1,.slice s.a2 s.l2.length s.c2] 45);rwa [World.size_alloc] at this⟩
 have hZ:Slot2 (((w.alloc (.cells #[.slice a ll.length c] 25)).alloc (.cells #[.slice s.a1 s.l1.length s.c1,.slice s.a2 s.l2.length s.c2] 45)).alloc (.cells #[.slice none 0 0,.slice none 0 0] 45)) (w.heap.size+1+1) (.slice none 0 0) (.slice none 0 0):=⟨by have:=heap_alloc_new ((w.alloc (.cells #[.slice a ll.length c] 25)).alloc (.cells #[.slice s.a1 s.l1.length s.c1,.slice s.a2 s.l2.length s.c2] 45)) (.cells #[.slice none 0 0,.slice none 0 0] 45);rwa [World.size_alloc,World.size_alloc] at this⟩
 have hY':=hY.bel2 (below1 _ (.cells #[.slice none 0 0,.slice none 0 0] 45))
 go_enter Tryz.func30,Tryz.ntmps30
 go_wp2_with fail
 generalize ((w.alloc (.cells #[.slice a ll.length c] 25)).alloc (.cells #[.slice s.a1 s.l1.length s.c1,.slice s.a2 s.l2.length s.c2] 45)).alloc (.cells #[.slice none 0 0,.slice none 0 0] 45)=W at *
 clear hY
 have CP:=iseenOk_any a b o c ll s W hl hls hs h1 sa1
 obtain ⟨hs1,hs2⟩:=hs
 cases hp:M.seenOk ll s.l1 s.l2
 ·rw [hp] at CP
  have hno:=M.turnSeen_bad (row:=gs) hp
  refine CP.mono ?_
  rintro e W1 ⟨rfl,b1⟩
  have hZ1:=hZ.bel2 b1
  have z0:=hZ1.c0
  have z1:=hZ1.c1
  have zf:=hZ1.fz
  have lz:=hZ1.lt
  have bw1:=b3.trans (b1.mono b3.size)
  go_wp2_with fail
  have q1:=(hZ1.set0 (.slice none 0 0)).set1 (.slice none 0 0)
  have q0:=q1.c0
  have q2:=q1.c1
  exact bodyPost_ret (v:=.tuple #[.agg #[.slice none 0 0,.slice none 0 0],.bool false]) (by simp [results,Tryz.results30,go_sem,q0,q2]) rfl ⟨_,_,by rw [hno];rfl,by rw [hno];exact ⟨World.ownsRow_nil _ _ _ _,World.ownsRow_nil _ _ _ _,fun k hk=>by simp [Value.ownBlock] at hk,(bw1.setCell (by show w.heap.size≤w.heap.size+1+1;omega) _).setCell (by show w.heap.size≤w.heap.size+1+1;omega) _⟩⟩
 ·rw [hp] at CP
  obtain ⟨hpg,hl1,hl2⟩:=M.seenOk_len hp
  obtain ⟨h3,h7⟩:=M.prog_le hpg
  have hlt6:M.tot M.reads ll≤21:=by
   have key:∀ l:List (List M.D),(∀ t∈l,t.length≤7)→M.tot M.reads l≤7 * l.length:=fun l=>by
    induction l with
    | nil=>intro _;simp [M.tot]
    | cons t l ih=>intro ht;have:=ih (fun x hx=>ht x (List.mem_cons_of_mem _ hx));have:=ht t (by simp);have:=M.cnt_le M.reads t;simp only [M.tot,List.length_cons];omega
   have:=key ll h7
   omega
  obtain ⟨rows,hrows⟩:∃ rows,M.turned [] gs (M.parts ll s.l1)=rows:=⟨_,rfl⟩
  obtain ⟨ok,hok⟩:∃ ok,M.rowN gs ll.length=ok:=⟨_,rfl⟩
  have hpl:=M.parts_len ll s.l1
  have hrow:M.rowN gs (M.parts ll s.l1).length=ok:=by rw [hpl];exact hok
  have E1:Hid ((M.turnSeen ll s.l1 s.l2 gs).isSome=ok∧(ok=true→((M.turnSeen ll s.l1 s.l2 gs).getD ([],[]))=(rows.flatten,s.l2))∧(ok=false→M.turnSeen ll s.l1 s.l2 gs=none)):=by
   cases ok
   ·rw [M.turnSeen_row hok];exact ⟨rfl,fun h=>by (cases h),fun _=>rfl⟩
   ·rw [M.turnSeen_yes hp hok];exact ⟨rfl,fun _=>by rw [← hrows,M.turned_yes hrow];rfl,fun h=>by cases h⟩
  have hlens:M.lens rows≤1000:=by
   rw [← hrows]
   cases ok
   ·rw [M.turned_no hrow];simp [M.lens]
   ·rw [M.turned_yes hrow]
    have h1:=M.lens_pick gs s.l1.length (M.parts ll s.l1) (M.parts_small ll s.l1)
    have h2:=M.rowN_len hok
    have h4:s.l1.length * gs.length≤21 * 3:=Nat.mul_le_mul (by omega) (by omega)
    omega
  have hrl:rows.length≤3:=by
   rw [← hrows]
   cases ok
   ·rw [M.turned_no hrow];simp
   ·rw [M.turned_yes hrow,M.pick_len,M.rowN_len hok];exact h3
  have CT:=fun A B C D W x y=>turnS_any ga gb go gc gs A B C D (M.parts ll s.l1) W hgl (by rw [hpl];omega) x y
  rw [hrows,hrow] at CT
  have CR:=fun W x y=>readsBy_any a b o c ll s.a1 s.b1 s.o1 s.c1 s.l1 W h3 h7 hl1 hcap x y
  have HL1:Hid (s.l1.length=M.tot M.reads ll):=hl1
  have HL2:Hid (s.l2.length=3):=hl2
  clear hp hrows hok hrow hpl hl1 hl2
  generalize M.parts ll s.l1=pt at *
  refine CP.mono ?_
  rintro e W1 ⟨rfl,b1⟩
  have h1':=h1.below b1 (Nat.le_refl _)
  have hG1':=hG1.below b1 (Nat.le_refl _)
  have sa1':=sa1.below b1 (Nat.le_refl _)
  have hX1:=hX.bl' b1
  have hY1:=hY'.bel2 b1
  have hZ1:=hZ.bel2 b1
  have bw1:=b3.trans (b1.mono b3.size)
  have x0:=hX1.c
  have y0:=hY1.c0
  clear CP h1 hG1 sa1 hX hY' hZ b1 b3
  go_wp2_with fail
  refine (CR W1 h1' sa1'.reads).mono ?_
  rintro e W2 ⟨v2,rfl,⟨a2,⟨c2,rfl⟩,g2,hs2'⟩,b2⟩
  go_wp2_with fail
  refine (CT a2 g2 0 c2 W2 (hG1'.below b2 (Nat.le_refl _)) hs2').mono ?_
  rintro e W3 ⟨v3,rfl,⟨a3,⟨c3,rfl⟩,g3,hs3⟩,b3⟩
  have b13:=b2.trans (b3.mono b2.size)
  have hY3:=hY1.bel2 b13
  have hZ3:=hZ1.bel2 b13
  have bw3:=bw1.trans (b13.mono bw1.size)
  have hL3:=sa1'.last.below b13 (Nat.le_refl _)
  have lY1:=hY1.lt
  have lZ1:=hZ1.lt
  have hs13:=b13.size
  clear x0 y0 CR CT
  cases ok
  ·obtain ⟨e1,_,e3⟩:=E1.out
   have z0:=hZ3.c0
   have z1:=hZ3.c1
   have zf:=hZ3.fz
   have lz:=hZ3.lt
   have hno:=e3 (by first | rfl | trivial)
   clear e1 e3 E1
   go_wp2_with fail
   have q1:=(hZ3.set0 (.slice none 0 0)).set1 (.slice none 0 0)
   have q0:=q1.c0
   have q2:=q1.c1
   exact bodyPost_ret (v:=.tuple #[.agg #[.slice none 0 0,.slice none 0 0],.bool false]) (by simp [results,Tryz.results30,go_sem,q0,q2]) rfl ⟨_,_,by rw [hno];rfl,by rw [hno];exact ⟨World.ownsRow_nil _ _ _ _,World.ownsRow_nil _ _ _ _,fun k hk=>by simp [Value.ownBlock] at hk,(bw3.setCell (by show w.heap.size≤w.heap.size+1+1;omega) _).setCell (by show w.heap.size≤w.heap.size+1+1;omega) _⟩⟩
  ·have y1:=hY3.c1
   go_wp2_with fail
   refine wp_region_held_drew (S:=fun w'=>w'.cell? ⟨w.heap.size+1,1,none⟩=some (.slice s.a2 s.l2.length s.c2)) (by kernel_rfl) (by exact y1) (fun hH=>?_)
   refine tk 0 27 (.slice a3 rows.length c3) hH rfl rfl (by intro w' hSw;go_simp) ?_
   simp only [Act.put,zqa,zqb,zqc]
   refine tk 2 29 (.pointer (some ⟨w.heap.size+1,1,none⟩)) hH rfl rfl (by intro w' hSw;go_simp) ?_
   simp only [Act.put,zqa,zqb,zqc]
   refine tk 3 30 (.slice s.a2 s.l2.length s.c2) hH rfl rfl (by intro w' hSw;have hc:=hSw;go_simp) ?_
   simp only [Act.put,zqa,zqb,zqc]
   refine ry 1 rfl (fun K' hK=>?_)
   refine sg 28 rfl 72 #[.tmp 27] rfl #[.slice a3 rows.length c3] (fun _ _=>rfl) (concatI_any a3 g3 0 c3 rows W3.drew (by omega) hlens (hs3.below (Below.refl _ _).drew (Nat.le_refl _))) ?_
   rintro e r1 ⟨v1,rfl,ho1,bb1⟩
   have b1r:Below W3.heap.size W3 r1:=(Below.refl _ _).drew.trans bb1
   have hY1:=hY3.bel2 b1r
   have hZ1:=hZ3.bel2 b1r
   refine ⟨_,rfl,?_⟩
   simp only [Act.put,zqa,zqb,zqc]
   refine hK.out _ _ hY1.c1 (fun hH1=>?_)
   clear hK K'
   refine ry 4 rfl (fun K' hK=>?_)
   refine sg 31 rfl 73 #[.tmp 30] rfl #[.slice s.a2 s.l2.length s.c2] (fun _ _=>rfl) (newListO_any s.a2 s.b2 s.o2 s.c2 s.l2 r1 (by omega) (hL3.below b1r (Nat.le_refl _))) ?_
   rintro e r2 ⟨v2,rfl,ho2,bb2⟩
   have hZ2:=hZ1.bel2 bb2
   have hY2:=hY1.bel2 bb2
   have ho1':=ownsRow_below ho1 bb2
   have hap:∀ k,v1.ownBlock=some k→v2.ownBlock≠some k:=fun k h1 h2=>by
    have e1:=(ho1.lt k h1).2
    have e2:=(ho2.lt k h2).1
    omega
   have b2r:=b1r.trans (bb2.mono b1r.size)
   obtain ⟨xa,xc,rfl⟩:=own_slx ho1'
   obtain ⟨ya,yc,rfl⟩:=own_slx ho2
   refine ⟨_,rfl,?_⟩
   simp only [Act.put,zqa,zqb,zqc]
   refine hK.out _ _ hY2.c1 (fun hH2=>?_)
   clear hK K'
   refine tk 5 32 (.agg #[.slice xa (M.lens rows) xc,.slice ya s.l2.length yc]) hH2 rfl rfl (by intro w' hSw;go_simp) ?_
   simp only [Act.put,zqa,zqb,zqc]
   refine ry 6 rfl (fun K' hK=>?_)
   have z0:=hZ2.c0
   have z1:=hZ2.c1
   have zf:=hZ2.fz
   have lz:=hZ2.lt
   rw [if_pos (by rfl)]
   go_simp
   refine hK.out _ _ ((hY2.far (by omega) _).far (by omega) _).c1 (fun hH3=>?_)
   clear hK K'
   refine tk 7 7 (.bool true) hH3 rfl rfl (by intro w' hSw;go_simp) ?_
   simp only [Act.put,zqa,zqb,zqc]
   refine wpAnyH_done (by kernel_rfl) ?_ _
   clear z0 z1 zf
   go_wp2_with fail
   have q1:=(hZ2.set0 (.slice xa (M.lens rows) xc)).set1 (.slice ya s.l2.length yc)
   have q0:=q1.c0
   have q2:=q1.c1
   obtain ⟨e1,e2,_⟩:=E1.out
   have e2:=e2 (by first | rfl | trivial)
   have bF:=((bw3.trans (b2r.mono bw3.size)).setCell (p:=⟨w.heap.size+1+1,0,none⟩) (by show w.heap.size≤w.heap.size+1+1;omega) (.slice xa (M.lens rows) xc)).setCell (p:=⟨w.heap.size+1+1,1,none⟩) (by show w.heap.size≤w.heap.size+1+1;omega) (.slice ya s.l2.length yc)
   have f1:=(ownsRow_far (ownsRow_far ho1' (b:=w.heap.size+1+1) (i:=0) (by show _ < W3.heap.size;omega) (.slice xa (M.lens rows) xc)) (b:=w.heap.size+1+1) (i:=1) (by show _ < W3.heap.size;omega) (.slice ya s.l2.length yc))
   have f2:=(ownsRow_far (ownsRow_far ho2 (b:=w.heap.size+1+1) (i:=0) (by have:=b1r.size;omega) (.slice xa (M.lens rows) xc)) (b:=w.heap.size+1+1) (i:=1) (by have:=b1r.size;omega) (.slice ya s.l2.length yc))
   have hbw3:=bw3.size
   exact bodyPost_ret (v:=.tuple #[.agg #[.slice xa (M.lens rows) xc,.slice ya s.l2.length yc],.bool true]) (by simp [results,Tryz.results30,go_sem,q0,q2]) rfl ⟨_,_,by rw [e1],by rw [e2];exact ⟨by rw [M.lens_flat];exact ownsRow_mono f1 (by show w.heap.size≤W3.heap.size;omega),ownsRow_mono f2 (by have:=b1r.size;omega),hap,bF⟩⟩
end
end Go.Proofs.YtmhpgdliaclokaaGreat
