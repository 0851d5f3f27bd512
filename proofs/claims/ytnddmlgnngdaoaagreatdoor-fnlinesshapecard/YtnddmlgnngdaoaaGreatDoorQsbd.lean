/- What is seen in a way: plainly, and impl.ExecSeen. Of at most 1048576 threads, steps, numbers and rows. -/
import Derived.Deep.OwnRows
import Derived.Test.YtnddmlgnngdaoaaGreatDoorRows
import Derived.Test.YtnddmlgnngdaoaaGreatDoorQsay
import Derived.Test.YtnddmlgnngdaoaaGreatDoorQsbc
namespace Go.Proofs.YtnddmlgnngdaoaaGreatDoor
section
open Go.RowKit
namespace M
theorem orig_mono {ds:List De} {l:List Int}:∀ (m k n q:Nat),m≤k→orig ds l m n=some q→orig ds l k n=some q:=by
 intro m
 induction m with
 | zero=>intro k n q _ h;simp [orig] at h
 | succ m ih =>
  intro k n q hk h
  obtain ⟨k,rfl⟩:∃ k',k=k'+1:=⟨k - 1,by omega⟩
  rw [orig] at h ⊢
  split at h
  ·rename_i h0;rw [if_pos h0];exact h
  ·rename_i h0;rw [if_neg h0];exact ih k _ q (by omega) h
def vl (ds:List De) (l:List Int) (i:Int):Int:=val ds l (2 * ds.length+2) i
theorem endsAt_get {ds:List De} {l:List Int}:∀ (xs:List De) (n:Nat),endsAt ds l n xs=true→∀ i,i < xs.length→(orig ds l ds.length (n+i)).isSome=true:=by
 intro xs
 induction xs with
 | nil=>intro n _ i h;exact absurd h (Nat.not_lt_zero _)
 | cons x xs ih =>
  intro n h i hi
  simp only [endsAt,Bool.and_eq_true] at h
  cases i with
  | zero=>exact h.1
  | succ i =>
   have:=ih (n+1) h.2 i (by simpa using hi)
   rwa [show n+1+i=n+(i+1) from by omega] at this
theorem vl_of {ds:List De} {l:List Int} (hin:In ds l) (hll:l.length=ds.length) (hz:∀ x∈ds,x.reads=true∨x.d.k=3→x.d.v=0) (he:ends ds l=true) (n:Nat) (hn:n < ds.length) :
  ∃ q,∃ hq:q < ds.length,orig ds l ds.length n=some q∧vl ds l n=ds[q].d.v:=by
 have h:=endsAt_get ds 0 he n hn
 rw [Nat.zero_add] at h
 obtain ⟨q,hq⟩:=Option.isSome_iff_exists.1 h
 have hql:=orig_lt hin _ _ _ hn hq
 exact ⟨q,hql,hq,val_of_orig hin hll hz _ n q hn hql (orig_mono _ _ _ _ (by omega) hq)⟩
def rdAt (ds:List De) (l:List Int):Nat→List De→List Int
 | _,[]=>[]
 | n,x::xs=>if x.reads then vl ds l n::rdAt ds l (n+1) xs else rdAt ds l (n+1) xs
theorem rd_step {ds:List De} {l:List Int} {acc:List Int} {n:Nat} (h:rdAt ds l 0 ds=acc++rdAt ds l n (ds.drop n)) (hn:n < ds.length):rdAt ds l 0 ds=(if (ds[n]).reads then acc++[vl ds l n] else acc)++rdAt ds l (n+1) (ds.drop (n+1)):=by
 rw [h,← List.getElem_cons_drop hn,rdAt]
 split<;>simp
theorem rd_fin {ds:List De} {l:List Int} {acc:List Int} {n:Nat} (h:rdAt ds l 0 ds=acc++rdAt ds l n (ds.drop n)) (hn:ds.length≤n):rdAt ds l 0 ds=acc:=by
 rw [h,List.drop_eq_nil_of_le hn];simp [rdAt]
def seenR (ds:List De) (l:List Int):List Int:=rdAt ds l 0 ds
def lastOf (ds:List De) (l:List Int) (row:List Int):Int:=vl ds l (row.getLastD (-1))
theorem last_nil (ds:List De) (l:List Int):lastOf ds l []=0:=by simp [lastOf,vl,val]
theorem last_some (ds:List De) (l:List Int) {row:List Int} (h:0 < row.length):lastOf ds l row=vl ds l (row[row.length - 1]):=by
 obtain ⟨i,row,rfl⟩:∃ i r,row=i::r:=by cases row with
  | nil=>exact absurd h (Nat.lt_irrefl _)
  | cons i r=>exact ⟨i,r,rfl⟩
 rw [lastOf]
 congr 1
 rw [List.getLastD_eq_getLast?,List.getLast?_eq_getElem?,List.getElem?_eq_getElem (by simp)]
 rfl
def seenL (ds:List De) (l:List Int) (rows:List (List Int)):List Int:=rows.map (lastOf ds l)
end M
structure NewS (B:Nat) (w:World) (s:Sn):Prop where
 at_:s.At w
 ge1:B≤s.b1
 ge2:B≤s.b2
 own:Own2 w s
theorem value_vl (va:Option Addr) (g c:Nat) (ds:List M.De) (a:Option Addr) (b o c2:Nat) (l:List Int) (n:Nat) (w:World) (hn:n < ds.length) (HLL:Hid (l.length=ds.length)) (hin:M.In ds l) (hz:∀ x∈ds,x.reads=true∨x.d.k=3→x.d.v=0) (he:M.ends ds l=true) (hl:ds.length≤1048576) (h:DeS w va g ds) (h2:IntS w a b o l) :
  Calls Tryz.prog 87 #[.slice va ds.length c,.slice a l.length c2,.int .i64 n] w fun e w'=>e=.returned (.int .i64 (M.vl ds l n))∧Below w.heap.size w w':=by
 obtain ⟨q,hq,ho,hv⟩:=M.vl_of hin HLL.out hz he n hn
 rw [hv]
 exact value_any va g c ds a b o c2 l n q w hn HLL hin ho hq hl h h2
theorem Tryz.infoIntR:(Tryz.prog.info? 3).map (fun i=>(i.zero,i.size,i.bytes))=some (some (.int .i64 0),1,8):=by kernel_rfl
theorem own_far {w:World} {b i B n:Nat} {v:Value} {xs:List Value} (ho:w.ownsRow B 3 1 v n xs) (hb:b < B) (u:Value):(w.setCell ⟨b,i,none⟩ u).ownsRow B 3 1 v n xs:=by
 refine ⟨ho.1,?_⟩
 rcases ho.2 with h0 | ⟨g,cap,cur,hv,hg,hh,r⟩
 ·exact Or.inl h0
 ·exact Or.inr ⟨g,cap,cur,hv,hg,(Below.heap_setCell _ _ _ _ (fun e=>by simp at e;omega)).trans hh,r⟩
structure SxA (w wr:World) (e1 e2 v:Value) (acc:List Int) (f:Nat→Int):Prop where
 bel:Below w.heap.size w wr
 x0:wr.cell? ⟨w.heap.size,0,none⟩=some e1
 x1:wr.cell? ⟨w.heap.size,1,none⟩=some e2
 res:Slot2 wr (w.heap.size+1) (.slice none 0 0) (.slice none 0 0)
 row:wr.rowIs (w.heap.size+1+1) 3 3 (fun i=>.int .i64 (f i))
 s:Slot2 wr (w.heap.size+1+1+1) v (.slice (some ⟨w.heap.size+1+1,0,none⟩) 3 3)
 own:wr.ownsRow (w.heap.size+1+1+1+1) 3 1 v acc.length (nums acc)
theorem SxA.lt {w wr:World} {e1 e2 v:Value} {acc:List Int} {f:Nat→Int} (h:SxA w wr e1 e2 v acc f):w.heap.size+1+1+1 < wr.heap.size:=h.s.lt
theorem SxA.below {w wr w1:World} {e1 e2 v:Value} {acc:List Int} {f:Nat→Int} (h:SxA w wr e1 e2 v acc f) (hb:Below wr.heap.size wr w1):SxA w w1 e1 e2 v acc f:=by
 have hl:=h.lt
 exact ⟨h.bel.trans (hb.mono h.bel.size),(hb.cell (p:=⟨w.heap.size,0,none⟩) (by show w.heap.size < _;omega)).trans h.x0,(hb.cell (p:=⟨w.heap.size,1,none⟩) (by show w.heap.size < _;omega)).trans h.x1,
  h.res.of (hb.block _ (by omega)),h.row.of_block (hb.block _ (by omega)),h.s.of (hb.block _ hl),ownsRow_below h.own hb⟩
theorem SxA.snoc {w wr w3:World} {e1 e2 v v':Value} {acc acc':List Int} {f:Nat→Int} {o:Obj} (h:SxA w wr e1 e2 v acc f) (hg:(wr.alloc o).grownBy w3 v.ownBlock) (ho:w3.ownsRow (w.heap.size+1+1+1+1) 3 1 v' acc'.length (nums acc')) :
  SxA w (w3.setCell ⟨w.heap.size+1+1+1,0,none⟩ v') e1 e2 v' acc' f:=by
 have h1:=h.below (below1 wr o)
 have hl:=h1.lt
 have hge:=own_ge h.own
 have blk:∀ k,k < w.heap.size+1+1+1+1→w3.heap[k]?=(wr.alloc o).heap[k]?:=fun k hk=>hg.block k (by omega) (fun e=>by have:=hge k e.symm;omega)
 have hs:=h1.s.of (blk _ (by omega))
 refine ⟨(below_grown h1.bel hg (fun k hk=>by have:=hge k hk;omega) (by omega)).setCell (by show w.heap.size≤w.heap.size+1+1+1;omega) _,?_,?_,(h1.res.of (blk _ (by omega))).far (by omega) _,(h1.row.of_block (blk _ (by omega))).setOther (by show _≠w.heap.size+1+1+1;omega) _,hs.set0 _,own_slot ho hs _⟩
 ·rw [World.cell?_setCell_other _ _ _ _ (fun e=>by have:=congrArg Addr.block e;simp at this;omega)]
  exact (World.cell?_of_block (blk _ (by show w.heap.size < _;omega))).trans h1.x0
 ·rw [World.cell?_setCell_other _ _ _ _ (fun e=>by have:=congrArg Addr.block e;simp at this;omega)]
  exact (World.cell?_of_block (blk _ (by show w.heap.size < _;omega))).trans h1.x1
theorem SxA.store {w wr:World} {e1 e2 v:Value} {acc:List Int} {f:Nat→Int} (h:SxA w wr e1 e2 v acc f) (n:Nat) (x:Int) :
  SxA w (wr.setCell ⟨w.heap.size+1+1,n,none⟩ (.int .i64 x)) e1 e2 v acc (fun j=>if j=n then x else f j):=by
 refine ⟨h.bel.setCell (by show w.heap.size≤w.heap.size+1+1;omega) _,?_,?_,h.res.far (by omega) _,(h.row.set n (.int .i64 x)).congr (fun i _=>?_),h.s.far (by omega) _,own_far h.own (by omega) _⟩
 ·rw [World.cell?_setCell_other _ _ _ _ (fun e=>by have:=congrArg Addr.block e;simp at this;omega)];exact h.x0
 ·rw [World.cell?_setCell_other _ _ _ _ (fun e=>by have:=congrArg Addr.block e;simp at this;omega)];exact h.x1
 ·by_cases e:i=n<;>simp [e]
set_option maxHeartbeats 1000000 in
set_option maxRecDepth 100000 in
theorem iseen_any (va:Option Addr) (g c:Nat) (ds:List M.De) (fa:Option Addr) (fb fo fc:Nat) (l:List Int) (ra:Option Addr) (rb ro rc:Nat) (rows:List (List Int)) (w:World) (HLL:Hid (l.length=ds.length)) (hin:M.In ds l) (hz:∀ x∈ds,x.reads=true∨x.d.k=3→x.d.v=0) (he:M.ends ds l=true) (hl:ds.length≤1048576) (HR3:Hid (rows.length=3)) (hrl:∀ r∈rows,r.length≤1048576) (hrm:∀ r∈rows,∀ x∈r,0≤x∧x < ds.length) (h:DeS w va g ds) (hf:IntS w fa fb fo l) (hr:IntSS w ra rb ro rows) :
  Calls Tryz.prog 55 #[.slice va ds.length c,.agg #[.slice fa l.length fc,.slice ra rows.length rc]] w fun e w'=>∃ s:Sn,e=.returned (.agg #[.slice s.a1 s.l1.length s.c1,.slice s.a2 s.l2.length s.c2])∧s.l1=M.seenR ds l∧s.l2=M.seenL ds l rows∧NewS w.heap.size w' s∧Below w.heap.size w w':=by
 have hmk:∀ w:World,(Instr.makeSlice 31 (.int .i64 3) (.int .i64 3)).run Tryz.prog w=.ok (.slice (some ⟨w.heap.size,0,none⟩) 3 3) (w.alloc (.cells #[.int .i64 0,.int .i64 0,.int .i64 0] 3)):=fun w=>by
  have:=run_make_row' (P:=Tryz.prog) 31 3 (.int .i64 0) 8 Tryz.underlying31 Tryz.infoIntR rfl .i64 .i64 3 (by omega) (by omega) w
  rw [show madeCells #[Value.int .i64 0] 3=#[.int .i64 0,.int .i64 0,.int .i64 0] from by kernel_rfl] at this
  exact this
 obtain ⟨i0,hi,hz0,hz1,hz2⟩:=info_parts Tryz.infoInt
 go_enter Tryz.func55,Tryz.ntmps55
 go_wp2_with fail
 have A0:SxA w ((((w.alloc (.cells #[.slice fa l.length fc,.slice ra rows.length rc] 122)).alloc (.cells #[.slice none 0 0,.slice none 0 0] 33)).alloc (.cells #[.int .i64 0,.int .i64 0,.int .i64 0] 3)).alloc (.cells #[.slice none 0 0,.slice (some ⟨w.heap.size+1+1,0,none⟩) 3 3] 33)) (.slice fa l.length fc) (.slice ra rows.length rc) (.slice none 0 0) [] (fun _=>0):=by
  refine ⟨(below3 w _ _ _).alloc (by simp;omega) _,by simp [go_sem],by simp [go_sem],⟨?_⟩,?_,⟨alloc_new _ _ _ (by simp)⟩,World.ownsRow_nil _ _ _ _⟩
  ·rw [alloc_old _ _ _ (by simp),alloc_old _ _ _ (by simp)];exact alloc_new _ _ _ (by simp)
  ·refine World.rowIs.alloc ?_ _
   have:=World.rowIs_alloc ((w.alloc (.cells #[.slice fa l.length fc,.slice ra rows.length rc] 122)).alloc (.cells #[.slice none 0 0,.slice none 0 0] 33)) #[.int .i64 0,.int .i64 0,.int .i64 0] 3 (fun _=>.int .i64 0) (fun i hi=>by
    match i,hi with
    | 0,_=>rfl
    | 1,_=>rfl
    | 2,_=>rfl)
   simpa using this
 generalize ((((w.alloc (.cells #[.slice fa l.length fc,.slice ra rows.length rc] 122)).alloc (.cells #[.slice none 0 0,.slice none 0 0] 33)).alloc (.cells #[.int .i64 0,.int .i64 0,.int .i64 0] 3)).alloc (.cells #[.slice none 0 0,.slice (some ⟨w.heap.size+1+1,0,none⟩) 3 3] 33))=W0 at *
 clear hmk
 have hev:∀ args w,(callFunc 87 args).run Tryz.prog w=.ok (.enter 87 args) w:=enters_of Tryz.func87 (by kernel_rfl) rfl
 go_loopw [14] (fun s14 wr=>∃ (n:Nat) (acc:List Int) (v:Value),s14=.int .i64 n∧n≤ds.length∧acc.length≤n∧Hid (M.rdAt ds l 0 ds=acc++M.rdAt ds l n (ds.drop n))∧SxA w wr (.slice fa l.length fc) (.slice ra rows.length rc) v acc (fun _=>0)) (fun s14 _=>ds.length - (intOf s14).toNat)
 case atStart=>exact ⟨0,[],_,rfl,Nat.zero_le _,Nat.le_refl _,by show _=_;rfl,A0⟩
 case round =>
  clear A0
  obtain ⟨n,acc,v,rfl,hn,hacc,HW,A⟩:=hrel
  by_cases hlt:n < ds.length
  ·obtain ⟨rfl⟩:=h.addr (by omega)
   have hx:=DeS.at (h.bel A.bel (Nat.le_refl _)) hlt
   have HW2:Hid (M.rdAt ds l 0 ds=(if (ds[n]).reads then acc++[M.vl ds l n] else acc)++M.rdAt ds l (n+1) (ds.drop (n+1))):=M.rd_step HW.out hlt
   clear HW
   generalize ds[n]=x at *
   obtain ⟨c0,c1,c2,c3,c4,c5,c6⟩:=hx
   have i1:(n:Int) < ds.length:=by omega
   have lg:g < wr.heap.size:=World.block_lt_of_cell? _ _ c0
   have A2:=A.below (below2 wr (.cells #[.int .i64 (x.t:Int),.int .i64 (x.i:Int),.bool x.last,.int .i64 x.d.k,.int .i64 x.d.p,.int .i64 x.d.v,.int .i64 x.lr] 167) (.cells #[.int .i64 (x.t:Int),.int .i64 (x.i:Int),.bool x.last,.int .i64 x.d.k,.int .i64 x.d.p,.int .i64 x.d.v,.int .i64 x.lr] 167))
   cases ht:x.reads
   ·go_wp2_with (go_at_call 86;refine (deReads_any x _).mono ?_;rw [ht];rintro e w' ⟨rfl,rfl⟩)
    exact ⟨⟨n+1,acc,v,by go_num,by omega,by omega,by show _=_;have:=HW2.out;rw [ht] at this;exact this,A2⟩,by simp [intOf];omega⟩
   ·go_wp2_with (go_at_call 86;refine (deReads_any x _).mono ?_;rw [ht];rintro e w' ⟨rfl,rfl⟩)
    generalize (wr.alloc (.cells #[.int .i64 (x.t:Int),.int .i64 (x.i:Int),.bool x.last,.int .i64 x.d.k,.int .i64 x.d.p,.int .i64 x.d.v,.int .i64 x.lr] 167)).alloc (.cells #[.int .i64 (x.t:Int),.int .i64 (x.i:Int),.bool x.last,.int .i64 x.d.k,.int .i64 x.d.p,.int .i64 x.d.v,.int .i64 x.lr] 167)=W2 at *
    clear c0 c1 c2 c3 c4 c5 c6 lg A
    have cS:=A2.s.c0
    have cX:=A2.x0
    have lS:=A2.lt
    have fS:=A2.s.fz
    go_region_law (first
     | (refine step_go3 (by rfl) 87 _ _ _ _ (by rfl) _ _ _ (by rfl) (by rfl) (by rfl) hev (value_vl (some ⟨g,0,none⟩) g c ds fa fb fo fc l n W2.drew hlt HLL hin hz he hl (h.bel A2.bel.drew (Nat.le_refl _)) (hf.below A2.bel.drew (Nat.le_refl _))) ?_;rintro e w2 ⟨rfl,hb2⟩;have A3:=A2.below ((Below.refl _ _).drew.trans hb2);have cS2:=A3.s.c0;have fS2:=A3.s.fz;have lS2:=A3.lt;refine ⟨_,rfl,?_⟩)
     | (refine step_append_lies _ (by rfl) _ _ _ (by rfl) (w.heap.size+1+1+1+1) 3 i0 _ 1 8 Tryz.underlying31 hi hz0 hz1 hz2 rfl (by omega) v acc.length (nums acc) (by rfl) (A3.own.alloc _) ⟨w2.heap.size,0,none⟩ 1 1 [.int .i64 (M.vl ds l n)] (by rfl) (by rfl) (World.news_of_block (cs:=#[.int .i64 (M.vl ds l n)]) (t:=3) (fr:=(0,0)) (heap_alloc_new w2 _)) (by simp [Value.oneCell']) (by omega) (by unfold maxLen;omega) (by omega) (by simp only [World.size_alloc];omega) (w2.heap.size+1) (by simp) ?_;intro g3 cap w3 hown3 hgr hat hltg;have hown3':w3.ownsRow (w.heap.size+1+1+1+1) 3 1 (.slice (some ⟨g3,0,none⟩) (acc.length+1) cap) (acc++[M.vl ds l n]).length (nums (acc++[M.vl ds l n])):=(by rw [List.length_append];simpa [nums] using hown3);have A4:=A3.snoc hgr hown3';have hge:=own_ge A3.own;have cS3:w3.cell? ⟨w.heap.size+1+1+1,0,none⟩=some v:=hgr.cell (((below1 w2 (.cells #[.int .i64 (M.vl ds l n)] 3)).cell (p:=⟨w.heap.size+1+1+1,0,none⟩) lS2).trans cS2) (fun e=>by have:w.heap.size+1+1+1+1≤w.heap.size+1+1+1:=hge _ e.symm;omega);have fS3:∀ i,w3.frozen? ⟨w.heap.size+1+1+1,i,none⟩=false:=fun i=>(hgr.frozen_far ⟨w.heap.size+1+1+1,i,none⟩ (by simp only [World.size_alloc];omega) (fun e=>by have:w.heap.size+1+1+1+1≤w.heap.size+1+1+1:=hge _ e.symm;omega)).trans (((below1 w2 (.cells #[.int .i64 (M.vl ds l n)] 3)).frozen (p:=⟨w.heap.size+1+1+1,i,none⟩) lS2).trans (fS2 i));clear hge hown3 hown3' hgr hat hltg))
    all_goals
     go_wp2_with fail
     exact ⟨⟨n+1,acc++[M.vl ds l n],_,by go_num,by omega,by simp;omega,by show _=_;have:=HW2.out;rw [ht] at this;exact this,A4⟩,by simp [intOf];omega⟩
  ·have HF:Hid (M.seenR ds l=acc):=M.rd_fin HW.out (by omega)
   clear HW
   have cX:=A.x1
   go_wp2_with fail
   go_loopw [35] (fun s35 wr=>∃ (n:Nat) (f:Nat→Int),s35=.int .i64 n∧n≤rows.length∧Hid (∀ j,f j=if j < n then M.lastOf ds l (rows.getD j []) else 0)∧SxA w wr (.slice fa l.length fc) (.slice ra rows.length rc) v acc f) (fun s35 _=>rows.length - (intOf s35).toNat)
   case atStart=>exact ⟨0,fun _=>0,rfl,Nat.zero_le _,(fun j=>by simp),A⟩
   case round =>
    clear A cX hn hacc hlt
    obtain ⟨n,f,rfl,hn,HW,A⟩:=hrel
    by_cases hlt:n < rows.length
    ·obtain ⟨rfl⟩:=hr.addr (by omega)
     obtain ⟨a',b',o',c',hc,hd⟩:=(hr.below A.bel (Nat.le_refl _)).row n hlt
     have hlr:=hrl _ (List.getElem_mem hlt)
     have hmr:=hrm _ (List.getElem_mem hlt)
     have HG:Hid (rows.getD n []=rows[n]):=by show _=_;rw [List.getD_eq_getElem?_getD,List.getElem?_eq_getElem hlt];rfl
     have H3:n < 3:=by have:=HR3.out;omega
     generalize rows[n]=row at *
     by_cases h0:0 < row.length
     ·have HX:Hid (M.lastOf ds l row=M.vl ds l row[row.length - 1]):=M.last_some ds l h0
      have hmx:=hmr _ (List.getElem_mem (l:=row) (n:=row.length - 1) (by omega))
      have hcx:=hd.row (row.length - 1) (by omega)
      obtain ⟨rfl⟩:=hd.addr h0
      generalize row[row.length - 1]=y at *
      obtain ⟨m,rfl⟩:∃ m:Nat,y=m:=⟨y.toNat,by omega⟩
      have hm:m < ds.length:=by omega
      obtain ⟨k,hk⟩:∃ k,row.length=k+1:=⟨row.length - 1,by omega⟩
      have HK:Hid (row.length=k+1):=hk
      rw [hk,Nat.add_sub_cancel] at hcx
      rw [hk] at hc hlr
      clear hk h0 hmx
      have cS:=A.s.c1
      have cX:=A.x0
      have lS:=A.lt
      have cR:=A.row.cell H3
      have fR:=A.row.frozen
      have k1:(k:Int) < (k:Int)+1:=by omega
      have k2:IntKind.i64.wrap (k:Int)=k:=by rw [IntKind.wrap_i64];omega
      have n3:(n:Int) < 3:=by omega
      have ln:(n:Int) < rows.length:=by omega
      go_wp2_with fail
      go_region_law (refine step_go3 (by rfl) 87 _ _ _ _ (by rfl) _ _ _ (by rfl) (by rfl) (by rfl) hev (value_vl va g c ds fa fb fo fc l m wr.drew hm HLL hin hz he hl (h.bel A.bel.drew (Nat.le_refl _)) (hf.below A.bel.drew (Nat.le_refl _))) ?_;rintro e w2 ⟨rfl,hb2⟩;have A3:=A.below ((Below.refl _ _).drew.trans hb2);have cS2:=A3.s.c1;have lS2:=A3.lt;have cR2:=A3.row.cell H3;have fR2:=A3.row.frozen;refine ⟨_,rfl,?_⟩)
      all_goals
       have A4:=A3.store n (M.vl ds l m)
       go_wp2_with fail
       refine ⟨⟨n+1,_,by go_num,by omega,(fun j=>?_),A4⟩,by simp [intOf];omega⟩
       show (if j=n then M.vl ds l m else f j)=_
       by_cases e:j=n
       ·subst e
        rw [if_pos rfl,if_pos (by omega),HG.out,HX.out]
       ·rw [if_neg e,HW.out j]
        by_cases e2:j < n
        ·rw [if_pos e2,if_pos (by omega)]
        ·rw [if_neg e2,if_neg (by omega)]
     ·obtain rfl:row=[]:=List.length_eq_zero_iff.1 (by omega)
      have ln:(n:Int) < rows.length:=by omega
      rw [List.length_nil] at hc
      go_wp2_with fail
      refine ⟨⟨n+1,f,by go_num,by omega,(fun j=>?_),A⟩,by simp [intOf];omega⟩
      rw [HW.out j]
      by_cases e:j=n
      ·subst e
       rw [if_neg (by omega),if_pos (by omega),HG.out,M.last_nil]
      ·by_cases e2:j < n
       ·rw [if_pos e2,if_pos (by omega)]
       ·rw [if_neg e2,if_neg (by omega)]
    ·obtain ⟨a1,g1,c1,rfl,i1,ge1,nc1⟩:=own_nums A.own
     have x0:=A.s.c0
     have x1:=A.s.c1
     have lS:=A.lt
     have y0:=A.res.c0
     have y1:=A.res.c1
     have yf:=A.res.fz
     go_wp2_with fail
     have hl3:(M.seenL ds l rows).length=3:=by rw [M.seenL,List.length_map];exact HR3.out
     have i2:IntS wr (some ⟨w.heap.size+1+1,0,none⟩) (w.heap.size+1+1) 0 (M.seenL ds l rows):=⟨fun _=>rfl,fun i hi=>by
      have hir:i < rows.length:=by simpa [M.seenL] using hi
      have:=A.row.cell (i:=i) (by omega)
      rw [HW.out i,if_pos (by omega),List.getD_eq_getElem?_getD,List.getElem?_eq_getElem hir] at this
      rw [Nat.zero_add,this]
      simp [M.seenL]⟩
     refine bodyPost_ret (v:=.agg #[.slice a1 acc.length c1,.slice (some ⟨w.heap.size+1+1,0,none⟩) 3 3]) (by simp [results,Tryz.results55,go_sem,y0,y1]) rfl ⟨⟨a1,g1,0,c1,acc,some ⟨w.heap.size+1+1,0,none⟩,w.heap.size+1+1,0,3,M.seenL ds l rows⟩,?_,HF.out.symm,rfl,⟨⟨?_,?_⟩,by show w.heap.size≤g1;omega,by show w.heap.size≤w.heap.size+1+1;omega,⟨fun _ _=>by show g1≠w.heap.size+1+1;omega,?_⟩⟩,?_⟩
     ·rw [hl3]
     ·exact (i1.far (by omega)).far (by omega)
     ·exact (i2.far (by omega)).far (by omega)
     ·intro b hb j
      rw [World.frozen?_setCell,World.frozen?_setCell]
      rcases hb with ⟨h0,e⟩ | ⟨_,e⟩
      ·have e':b=g1:=e
       subst e'
       obtain ⟨rfl⟩:=i1.addr h0
       exact own_fzS A.own j
      ·have e':b=w.heap.size+1+1:=e
       subst e'
       exact A.row.frozen j
     ·exact (A.bel.setCell (by show w.heap.size≤w.heap.size+1;omega) _).setCell (by show w.heap.size≤w.heap.size+1;omega) _
namespace M
def execSeen (ll:List (List D)) (l:List Int) (rows:List (List Int)):List Int × List Int:=if execOk ll l rows then (seenR (deeds ll) l,seenL (deeds ll) l rows) else ([],[])
structure Way (ll:List (List D)) (l:List Int) (rows:List (List Int)):Prop where
 prog:prog ll=true
 len:Hid (l.length=(deeds ll).length)
 inn:In (deeds ll) l
 fin:ends (deeds ll) l=true
 three:Hid (rows.length=3)
 mem:∀ r∈rows,∀ x∈r,0≤x∧x < (deeds ll).length
 zero:∀ x∈deeds ll,x.reads=true∨x.d.k=3→x.d.v=0
theorem deed_z {ll:List (List D)} (h:prog ll=true):∀ x∈deeds ll,x.reads=true∨x.d.k=3→x.d.v=0:=by
 intro x hx hk
 have:=deed_do h x hx
 simp only [doOk,Bool.and_eq_true,valOk] at this
 have hv:=this.2
 rw [if_neg ?_] at hv
 ·simpa using hv
 ·rcases hk with hk | hk
  ·simp only [De.reads,reads,Bool.or_eq_true,beq_iff_eq] at hk
   rcases hk with hk | hk<;>simp [stores,hk]
  ·simp [stores,hk]
theorem way_of {ll:List (List D)} {l:List Int} {rows:List (List Int)} (h:execOk ll l rows=true):Way ll l rows:=by
 simp only [execOk,wayOk,Bool.and_eq_true] at h
 obtain ⟨hp,hf,ho,he⟩:=h
 have hlen:l.length=(deeds ll).length:=by
  simp only [fromOk,Bool.and_eq_true,decide_eq_true_eq] at hf
  exact hf.1
 simp only [orderOk,Bool.and_eq_true,decide_eq_true_eq] at ho
 refine ⟨hp,hlen,in_of hf,he,ho.1,fun r hr x hx=>?_,deed_z hp⟩
 obtain ⟨n,hn,rfl⟩:=List.getElem_of_mem hr
 obtain ⟨i,hi,e,_⟩:=mem_wrs.1 ((isRow_mem (orderAt_get ho.2 n hn) x).1 hx)
 omega
end M
end
end Go.Proofs.YtnddmlgnngdaoaaGreatDoor
