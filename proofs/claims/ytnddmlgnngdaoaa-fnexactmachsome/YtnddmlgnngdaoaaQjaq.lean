/- The law's own copying of a program: laws.toDo, toDoS, toDoSS, toProg. Of programs of at most 1048576 threads, each of at most 1048576 steps. -/
import Derived.Deep.OwnRows
import Derived.Test.YtnddmlgnngdaoaaRows
import Derived.Test.YtnddmlgnngdaoaaQjao
namespace Go.Proofs.Ytnddmlgnngdaoaa
section
open Go.RowKit
set_option maxHeartbeats 400000 in
theorem toDo_any (d:M.D) (w:World) :
  Calls Try.prog 71 #[.agg #[.int .i64 d.k,.int .i64 d.p,.int .i64 d.v]] w fun e w'=>e=.returned (.agg #[.int .i64 d.k,.int .i64 d.p,.int .i64 d.v])∧Below w.heap.size w w':=by
 obtain ⟨k,p,v⟩:=d
 go_enter Try.func71,Try.ntmps71
 go_wp2_with fail
 exact bodyPost_ret (v:=.agg #[.int .i64 k,.int .i64 p,.int .i64 v]) (by simp [results,Try.results71,go_sem]) rfl ⟨rfl,below3 _ _ _ _⟩
theorem run_make_rows {P:Program} (t e:TypeId) (z:Value) (size bytes:Nat) (ht:P.underlying t=some (.slice e)) (hinfo:(P.info? e).map (fun i=>(i.zero,i.size,i.bytes))=some (some z,size,bytes))
  (n:Nat) (hbytes:bytes * n≤281474976710656) (h63:n≤9223372036854775807) (w:World) :
  (Instr.makeSlice t (.int .i64 (n:Int)) (.int .i64 (n:Int))).run P w=.ok (.slice (some ⟨w.heap.size,0,none⟩) n n) (w.alloc (.cells (madeCells z.cells (n * size)) e)):=by
 obtain ⟨i,hi,hzz⟩:=Option.map_eq_some_iff.1 hinfo
 simp only [Prod.mk.injEq] at hzz
 obtain ⟨hz,hs,hb⟩:=hzz
 have hb':(i.bytes:Int) * (n:Int)≤281474976710656:=by
  rw [hb]
  have h:((bytes * n:Nat):Int)≤281474976710656:=by omega
  rwa [Int.natCast_mul] at h
 have hr:=run_make (P:=P) w t e i z ht hi hz .i64 .i64 n n (by omega) (Int.le_refl _) hb' (by omega)
 simp only [Int.toNat_natCast,hs] at hr
 exact hr
theorem Try.info84:(Try.prog.info? 84).map (fun i=>(i.zero,i.size,i.bytes))=some (some (.agg #[.int .i64 0,.int .i64 0,.int .i64 0]),3,24):=by kernel_rfl
theorem Try.info60:(Try.prog.info? 60).map (fun i=>(i.zero,i.size,i.bytes))=some (some (.slice none 0 0),1,24):=by kernel_rfl
def Fz (w:World) (b:Nat):Prop:=∀ j,w.frozen? ⟨b,j,none⟩=false
theorem Fz.set {w:World} {b:Nat} (h:Fz w b) (p:Addr) (u:Value):Fz (w.setCell p u) b:=fun j=>by rw [World.frozen?_setCell];exact h j
theorem Fz.below {w w':World} {b B:Nat} (h:Fz w b) (hb:Below B w w') (hl:b < B):Fz w' b:=fun j=>(hb.frozen (p:=⟨b,j,none⟩) hl).trans (h j)
structure Part (w wr:World) (l:List M.D) (n:Nat):Prop where
 bel:Below w.heap.size w wr
 own:∃ f,wr.rowIs w.heap.size 84 (l.length * 3) f
 done:∀ q (_:q < n) (h:q < l.length),DoAt wr w.heap.size (q * 3) l[q]
theorem madeCells_at (z:Array Value) (n i:Nat) (hi:i < n):(madeCells z n)[i]?=some (z[i % z.size]!):=by
 simp [madeCells,hi]
theorem part_start (w:World) (l:List M.D) (z:Array Value):Part w (w.alloc (.cells (madeCells z (l.length * 3)) 84)) l 0:=by
 refine ⟨below1 _ _,⟨fun i=>z[i % z.size]!,?_⟩,fun q hq _=>absurd hq (Nat.not_lt_zero _)⟩
 have:=World.rowIs_alloc w (madeCells z (l.length * 3)) 84 (fun i=>z[i % z.size]!) (fun i hi=>madeCells_at z _ i (by rwa [size_madeCells] at hi))
 rwa [size_madeCells] at this
theorem cell_other {w:World} {b i j:Nat} {u:Value} (h:i≠j):(w.setCell ⟨b,i,none⟩ u).cell? ⟨b,j,none⟩=w.cell? ⟨b,j,none⟩ :=
 World.cell?_setCell_other _ _ _ _ (fun e=>h (by have:=congrArg Addr.off e;simp at this;omega))
theorem part_step {w wr w1:World} {l:List M.D} {n:Nat} {k p v:Int} (hp:Part w wr l n) (hlt:n < l.length) (hb1:Below wr.heap.size wr w1) (hd:l[n]=⟨k,p,v⟩) :
  Part w (((w1.setCell ⟨w.heap.size,n * 3,none⟩ (.int .i64 k)).setCell ⟨w.heap.size,n * 3+1,none⟩ (.int .i64 p)).setCell ⟨w.heap.size,n * 3+2,none⟩ (.int .i64 v)) l (n+1):=by
 obtain ⟨f,hf⟩:=hp.own
 have hlb:=hf.lt
 have hf1:w1.rowIs w.heap.size 84 (l.length * 3) f:=hf.of_block (hb1.block _ hlb)
 have hr:=((hf1.set (n * 3) (.int .i64 k)).set (n * 3+1) (.int .i64 p)).set (n * 3+2) (.int .i64 v)
 refine ⟨(((hp.bel.trans (hb1.mono hp.bel.size)).setCell (Nat.le_refl _) _).setCell (Nat.le_refl _) _).setCell (Nat.le_refl _) _,⟨_,hr⟩,fun q hq hql=>?_⟩
 by_cases e:q=n
 ·subst e
  rw [hd]
  refine ⟨?_,?_,?_⟩
  ·rw [hr.cell (by omega)];simp
  ·rw [hr.cell (by omega)];simp
  ·rw [hr.cell (by omega)];simp
 ·obtain ⟨ck,cp,cv⟩:=(hp.done q (by omega) hql).below hb1 (Nat.le_refl _)
  refine ⟨?_,?_,?_⟩
  ·rw [cell_other (by omega),cell_other (by omega),cell_other (by omega)];exact ck
  ·rw [cell_other (by omega),cell_other (by omega),cell_other (by omega)];exact cp
  ·rw [cell_other (by omega),cell_other (by omega),cell_other (by omega)];exact cv
set_option maxHeartbeats 400000 in
theorem toDoS_any (a:Option Addr) (b o c:Nat) (l:List M.D) (w:World) (hl:l.length≤1048576) (h:DoS w a b o l) :
  Calls Try.prog 56 #[.slice a l.length c] w fun e w'=>e=.returned (.slice (some ⟨w.heap.size,0,none⟩) l.length l.length)∧DoS w' (some ⟨w.heap.size,0,none⟩) w.heap.size 0 l∧(Fz w' w.heap.size∧w.heap.size < w'.heap.size)∧Below w.heap.size w w':=by
 have hmk:=run_make_rows (P:=Try.prog) 60 84 (.agg #[.int .i64 0,.int .i64 0,.int .i64 0]) 3 24 Try.underlying60 Try.info84 l.length (by omega) (by omega)
 go_enter Try.func56,Try.ntmps56
 go_wp2_with fail
 clear hmk
 go_loopw [4] (fun s4 wr=>∃ n:Nat,s4=.int .i64 n∧n≤l.length∧Part w wr l n) (fun s4 _=>l.length - (intOf s4).toNat)
 case atStart=>exact ⟨0,rfl,Nat.zero_le _,part_start w l _⟩
 case round =>
  obtain ⟨n,rfl,hn,hpart⟩:=hrel
  by_cases hlt:n < l.length
  ·obtain ⟨rfl⟩:=h.addr (by omega)
   have hbel:=hpart.bel
   have hd:=(h.row n hlt).below hbel (Nat.le_refl _)
   generalize hln:l[n]=d at hd
   obtain ⟨k,p,v⟩:=d
   have HL:Hid (l[n]=⟨k,p,v⟩):=hln
   clear hln
   obtain ⟨f,hf⟩:=hpart.own
   have hlb:=hf.lt
   obtain ⟨ck,cp,cv⟩:=hd
   go_wp2_with (go_at_call 71;refine (toDo_any ⟨_,_,_⟩ _).mono ?_;rintro e w1 ⟨rfl,hb1⟩;have c0:w1.cell? ⟨w.heap.size,n * 3,none⟩=some (f (n * 3)):=(hb1.cell (p:=⟨w.heap.size,n * 3,none⟩) hlb).trans (hf.cell (by omega));have c1:w1.cell? ⟨w.heap.size,n * 3+1,none⟩=some (f (n * 3+1)):=(hb1.cell (p:=⟨w.heap.size,n * 3+1,none⟩) hlb).trans (hf.cell (by omega));have c2:w1.cell? ⟨w.heap.size,n * 3+2,none⟩=some (f (n * 3+2)):=(hb1.cell (p:=⟨w.heap.size,n * 3+2,none⟩) hlb).trans (hf.cell (by omega));have f0:∀ i,w1.frozen? ⟨w.heap.size,i,none⟩=false:=fun i=>(hb1.frozen (p:=⟨w.heap.size,i,none⟩) hlb).trans (hf.frozen i))
   exact ⟨⟨n+1,by go_num,by omega,part_step hpart hlt hb1 HL.out⟩,by simp [intOf];omega⟩
  ·go_wp2_with fail
   go_ret
   refine ⟨rfl,⟨fun _=>rfl,fun i hi=>?_⟩,(let ⟨_,hf⟩:=hpart.own;⟨fun j=>hf.frozen j,hf.lt⟩),hpart.bel⟩
   rw [Nat.zero_add]
   exact hpart.done i (by omega) hi
structure Parts (w wr:World) (ll:List (List M.D)) (n:Nat):Prop where
 bel:Below w.heap.size w wr
 own:∃ f,wr.rowIs w.heap.size 60 ll.length f
 done:∀ q (_:q < n) (h:q < ll.length),∃ a' b' o' c',wr.cell? ⟨w.heap.size,q,none⟩=some (.slice a' ll[q].length c')∧DoS wr a' b' o' ll[q]∧w.heap.size < b'∧Fz wr b'∧b' < wr.heap.size
theorem parts_start (w:World) (ll:List (List M.D)) (z:Value):Parts w (w.alloc (.cells (madeCells #[z] ll.length) 60)) ll 0 :=
 ⟨below1 _ _,⟨_,World.rowIs_made w z ll.length 60⟩,fun _ hq _=>absurd hq (Nat.not_lt_zero _)⟩
theorem DoAt.other {w:World} {b o B i:Nat} {d:M.D} {u:Value} (h:DoAt w b o d) (hb:b≠B):DoAt (w.setCell ⟨B,i,none⟩ u) b o d:=by
 have e:∀ j,(⟨B,i,none⟩:Addr)≠⟨b,j,none⟩:=fun j e=>hb (congrArg Addr.block e).symm
 exact ⟨(World.cell?_setCell_other _ _ _ _ (e _)).trans h.k,(World.cell?_setCell_other _ _ _ _ (e _)).trans h.p,(World.cell?_setCell_other _ _ _ _ (e _)).trans h.v⟩
theorem DoS.other {w:World} {a:Option Addr} {b o B i:Nat} {l:List M.D} {u:Value} (h:DoS w a b o l) (hb:b≠B):DoS (w.setCell ⟨B,i,none⟩ u) a b o l :=
 ⟨h.addr,fun j hj=>(h.row j hj).other hb⟩
theorem parts_step {w wr w1:World} {ll:List (List M.D)} {n:Nat} {t:List M.D} {b' o' c':Nat} {a':Option Addr} (hp:Parts w wr ll n) (hlt:n < ll.length) (hb1:Below wr.heap.size wr w1) (hd:ll[n]=t)
  (hs:DoS w1 a' b' o' t) (hb':w.heap.size < b') (hz:Fz w1 b'∧b' < w1.heap.size) :
  Parts w (w1.setCell ⟨w.heap.size,n,none⟩ (.slice a' t.length c')) ll (n+1):=by
 obtain ⟨f,hf⟩:=hp.own
 have hlb:=hf.lt
 have hf1:w1.rowIs w.heap.size 60 ll.length f:=hf.of_block (hb1.block _ hlb)
 have hr:=hf1.set n (.slice a' t.length c')
 refine ⟨(hp.bel.trans (hb1.mono hp.bel.size)).setCell (Nat.le_refl _) _,⟨_,hr⟩,fun q hq hql=>?_⟩
 by_cases e:q=n
 ·subst e
  rw [hd]
  exact ⟨a',b',o',c',by rw [hr.cell hql];simp,hs.other (by omega),hb',hz.1.set _ _,by simpa [World.setCell] using hz.2⟩
 ·obtain ⟨a2,b2,o2,c2,hc2,hd2,hb2,hz2,hl2⟩:=hp.done q (by omega) hql
  refine ⟨a2,b2,o2,c2,?_,(hd2.below hb1 (Nat.le_refl _)).other (by omega),hb2,(hz2.below hb1 hl2).set _ _,by have:=hb1.size;simp [World.setCell];omega⟩
  rw [cell_other (by omega),hb1.cell (p:=⟨w.heap.size,q,none⟩) hlb]
  exact hc2
structure NewSS (w:World) (B N g:Nat) (ll:List (List M.D)):Prop where
 ge:B≤g
 row:∀ i (h:i < ll.length),∃ a' b' o' c',w.cell? ⟨g,i,none⟩=some (.slice a' ll[i].length c')∧DoS w a' b' o' ll[i]∧B≤b'∧Fz w b'∧b' < N
 le:N≤w.heap.size
theorem NewSS.old {w:World} {B N g:Nat} {ll:List (List M.D)} (h:NewSS w B N g ll):DoSS w (some ⟨g,0,none⟩) g 0 ll :=
 ⟨fun _=>rfl,fun i hi=>by
  obtain ⟨a',b',o',c',hc,hd,_⟩:=h.row i hi
  exact ⟨a',b',o',c',by rw [Nat.zero_add];exact hc,hd⟩⟩
theorem NewSS.mono {w:World} {B B' N g:Nat} {ll:List (List M.D)} (h:NewSS w B N g ll) (hB:B'≤B):NewSS w B' N g ll :=
 ⟨Nat.le_trans hB h.ge,fun i hi=>by
  obtain ⟨a',b',o',c',hc,hd,hb,hz⟩:=h.row i hi
  exact ⟨a',b',o',c',hc,hd,Nat.le_trans hB hb,hz⟩,h.le⟩
theorem NewSS.below {w w':World} {B C N g:Nat} {ll:List (List M.D)} (h:NewSS w B N g ll) (hb:Below C w w') (hC:w.heap.size≤C):NewSS w' B N g ll :=
 ⟨h.ge,fun i hi=>by
  obtain ⟨a',b',o',c',hc,hd,hb',hz,hl2⟩:=h.row i hi
  have hl:=World.block_lt_of_cell? _ _ hc
  exact ⟨a',b',o',c',by rw [hb.cell (p:=⟨g,i,none⟩) (Nat.lt_of_lt_of_le hl hC)];exact hc,hd.below hb hC,hb',hz.below hb (Nat.lt_of_lt_of_le (Nat.lt_of_lt_of_le hl2 h.le) hC),hl2⟩,Nat.le_trans h.le hb.size⟩
theorem NewSS.other {w:World} {B N g:Nat} {ll:List (List M.D)} (h:NewSS w B N g ll) {b i:Nat} (hb:b < B) (u:Value):NewSS (w.setCell ⟨b,i,none⟩ u) B N g ll :=
 ⟨h.ge,fun j hj=>by
  obtain ⟨a',b',o',c',hc,hd,hb',hz,hl2⟩:=h.row j hj
  have hg:=h.ge
  exact ⟨a',b',o',c',by rw [World.cell?_setCell_other _ _ _ _ (fun e=>by have:=congrArg Addr.block e;simp at this;omega)];exact hc,hd.other (by omega),hb',hz.set _ _,hl2⟩,by have:=h.le;simpa [World.setCell] using this⟩
set_option maxHeartbeats 400000 in
theorem toDoSS_any (a:Option Addr) (b o c:Nat) (ll:List (List M.D)) (w:World) (hl:ll.length≤1048576) (hls:∀ t∈ll,t.length≤1048576) (h:DoSS w a b o ll) :
  Calls Try.prog 33 #[.slice a ll.length c] w fun e w'=>e=.returned (.slice (some ⟨w.heap.size,0,none⟩) ll.length ll.length)∧NewSS w' w.heap.size w'.heap.size w.heap.size ll∧Below w.heap.size w w':=by
 have hmk:=run_make_row' (P:=Try.prog) 31 60 (.slice none 0 0) 24 Try.underlying31 Try.info60 rfl .i64 .i64 ll.length (by omega) (by omega)
 go_enter Try.func33,Try.ntmps33
 go_wp2_with fail
 clear hmk
 go_loopw [4] (fun s4 wr=>∃ n:Nat,s4=.int .i64 n∧n≤ll.length∧Parts w wr ll n) (fun s4 _=>ll.length - (intOf s4).toNat)
 case atStart=>exact ⟨0,rfl,Nat.zero_le _,parts_start w ll _⟩
 case round =>
  obtain ⟨n,rfl,hn,hpart⟩:=hrel
  by_cases hlt:n < ll.length
  ·obtain ⟨rfl⟩:=h.addr (by omega)
   have hbel:=hpart.bel
   obtain ⟨a',b',o',c',hc,hd⟩:=(h.below hbel (Nat.le_refl _)).row n hlt
   have hlt':=hls _ (List.getElem_mem hlt)
   generalize hln:ll[n]=t at hd hc hlt'
   have HL:Hid (ll[n]=t):=hln
   clear hln
   obtain ⟨f,hf⟩:=hpart.own
   have hlb:=hf.lt
   go_wp2_with (go_at_call 56;refine (toDoS_any a' b' o' c' t _ hlt' hd).mono ?_;rintro e w1 ⟨rfl,hs1,hz1,hb1⟩;have c0:w1.cell? ⟨w.heap.size,n,none⟩=some (f n):=(hb1.cell (p:=⟨w.heap.size,n,none⟩) hlb).trans (hf.cell hlt);have f0:∀ i,w1.frozen? ⟨w.heap.size,i,none⟩=false:=fun i=>(hb1.frozen (p:=⟨w.heap.size,i,none⟩) hlb).trans (hf.frozen i))
   exact ⟨⟨n+1,by go_num,by omega,parts_step hpart hlt hb1 HL.out hs1 hlb hz1⟩,by simp [intOf];omega⟩
  ·go_wp2_with fail
   go_ret
   refine ⟨rfl,⟨Nat.le_refl _,fun i hi=>?_,Nat.le_refl _⟩,hpart.bel⟩
   obtain ⟨a',b',o',c',hc,hd,hb',hz⟩:=hpart.done i (by omega) hi
   exact ⟨a',b',o',c',hc,hd,Nat.le_of_lt hb',hz⟩
set_option maxHeartbeats 400000 in
theorem toProg_any (a:Option Addr) (b o c:Nat) (ll:List (List M.D)) (w:World) (hl:ll.length≤1048576) (hls:∀ t∈ll,t.length≤1048576) (h:DoSS w a b o ll) :
  Calls Try.prog 9 #[.agg #[.slice a ll.length c]] w fun e w'=>∃ g,e=.returned (.agg #[.slice (some ⟨g,0,none⟩) ll.length ll.length])∧NewSS w' w.heap.size w'.heap.size g ll∧Below w.heap.size w w':=by
 go_enter Try.func9,Try.ntmps9
 go_wp2_with (go_at_call 33;refine (toDoSS_any a b o c ll _ hl hls (h.below (below3 w _ _ _) (Nat.le_refl _))).mono ?_;rintro e w1 ⟨rfl,hs1,hb1⟩;obtain ⟨hc1,hf1⟩:=bcell hb1)
 refine bodyPost_ret (v:=.agg #[.slice (some ⟨w.heap.size+1+1+1,0,none⟩) ll.length ll.length]) (by simp [results,Try.results9,go_sem,hc1]) rfl ⟨_,rfl,?_,?_⟩
 ·simp only [World.size_alloc] at hs1
  rw [show ∀ p q u v,((w1.setCell p u).setCell q v).heap.size=w1.heap.size from fun p q u v=>by simp [World.setCell]]
  refine NewSS.mono (NewSS.other (NewSS.other hs1 ?_ _) ?_ _) ?_<;>omega
 ·exact (((below3 w _ _ _).trans (hb1.mono (by simp;omega))).setCell (by simp;omega) _).setCell (by simp) _
end
end Go.Proofs.Ytnddmlgnngdaoaa
