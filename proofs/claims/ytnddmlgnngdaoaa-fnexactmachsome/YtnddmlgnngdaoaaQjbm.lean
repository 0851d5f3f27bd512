/- What both MachSome and both MachTurns answer, as one said thing of what was seen, laid anew; what stands through the law's calls. Of programs of at most 1048576 threads and steps of a thread, of as many turns. -/
import Derived.Deep.OwnRows
import Derived.Test.YtnddmlgnngdaoaaRows
import Derived.Test.YtnddmlgnngdaoaaQjbf
namespace Go.Proofs.Ytnddmlgnngdaoaa
section
open Go.RowKit
theorem cb {W W':World} {p:Addr} {v:Value} (hb:Below W.heap.size W W') (h:W.cell? p=some v):W'.cell? p=some v:=(hb.cell (p:=p) (World.block_lt_of_cell? _ _ h)).trans h
structure NewT (B:Nat) (w:World) (s:Sn):Prop where
 at_:s.At w
 ge1:B≤s.b1
 ge2:B≤s.b2
 own:Own2 w s
theorem own_numsF {w:World} {base:Nat} {v:Value} {l:List Int} (h:w.ownsRow base 3 1 v l.length (nums l)):∃ a g c,v=.slice a l.length c∧IntS w a g 0 l∧base≤g∧(0 < l.length→v.ownBlock=some g∧∀ j,w.frozen? ⟨g,j,none⟩=false):=by
 rcases h.2 with ⟨hv,hn⟩ | ⟨g,cap,cur,hv,hg,hh,r⟩
 ·have:l=[]:=List.length_eq_zero_iff.1 hn
  subst this
  exact ⟨none,base,0,hv,IntS.nil _ _ _ _,Nat.le_refl _,fun h=>absurd h (Nat.lt_irrefl _)⟩
 ·refine ⟨_,g,cap,hv,⟨fun _=>rfl,fun i hi=>?_⟩,hg,fun _=>⟨by rw [hv];rfl,fun j=>by simp [World.frozen?,hh]⟩⟩
  have hc:=h.cells (g:=g) (by rw [hv];rfl) i (.int .i64 l[i]) (by simp [nums,hi])
  rwa [Go.WideShapes.add_plain] at hc
structure BxT (W:World) (X:Nat) (s:Sn):Prop where
 c0:W.cell? ⟨X,0,none⟩=some (.slice s.a1 s.l1.length s.c1)
 c1:W.cell? ⟨X,1,none⟩=some (.slice s.a2 s.l2.length s.c2)
 at_:s.At W
theorem BxT.below {W W':World} {X:Nat} {s:Sn} (h:BxT W X s) (hb:Below W.heap.size W W'):BxT W' X s:=⟨cb hb h.c0,cb hb h.c1,h.at_.below hb (Nat.le_refl _)⟩
theorem BxT.new {W:World} {s:Sn} (h:s.At W):BxT (W.alloc (.cells #[.slice s.a1 s.l1.length s.c1,.slice s.a2 s.l2.length s.c2] 28)) W.heap.size s:=⟨by simp,by simp,h.below (below1 _ _) (Nat.le_refl _)⟩
def MSaid (B:Nat) (ok:Bool) (r1 r2:List Int) (e:Ending) (w':World):Prop:=∃ t:Sn,e=.returned (.tuple #[.agg #[.slice t.a1 t.l1.length t.c1,.slice t.a2 t.l2.length t.c2],.bool ok])∧Hid (t.l1=r1∧t.l2=r2)∧NewT B w' t
def MRead (ok:Bool) (r1 r2:List Int) (e:Ending) (w':World):Prop:=∃ t:Sn,e=.returned (.tuple #[.agg #[.slice t.a1 t.l1.length t.c1,.slice t.a2 t.l2.length t.c2],.bool ok])∧Hid (t.l1=r1∧t.l2=r2)∧t.At w'
theorem MAns.said {B:Nat} {r:Option M.St} {e:Ending} {w':World} (h:MAns B r e w'):MSaid B r.isSome (M.runR r) (M.runL r) e w':=by
 obtain ⟨v,u,he,V,U,hap⟩:=h
 obtain ⟨a1,g1,c1,e1,i1,ge1,f1⟩:=own_numsF V
 obtain ⟨a2,g2,c2,e2,i2,ge2,f2⟩:=own_numsF U
 refine ⟨⟨a1,g1,0,c1,M.runR r,a2,g2,0,c2,M.runL r⟩,by rw [he,e1,e2],⟨rfl,rfl⟩,⟨⟨i1,i2⟩,ge1,ge2,⟨fun p1 p2 e=>?_,fun b hb j=>?_⟩⟩⟩
 ·have e':g1=g2:=e
  exact hap g1 (f1 p1).1 (by rw [e'];exact (f2 p2).1)
 ·rcases hb with ⟨hl,e⟩ | ⟨hl,e⟩
  ·have e':b=g1:=e
   rw [e'];exact (f1 hl).2 j
  ·have e':b=g2:=e
   rw [e'];exact (f2 hl).2 j
theorem SAns.said {B:Nat} {r:Option M.St} {e:Ending} {w':World} (h:SAns B r e w'):MRead r.isSome (M.runR r) (M.runL r) e w':=by
 obtain ⟨v,u,he,V,U⟩:=h
 obtain ⟨a1,g1,c1,e1,i1,_,_⟩:=own_numsF V
 obtain ⟨a2,g2,c2,e2,i2,_,_⟩:=own_numsF U
 exact ⟨⟨a1,g1,0,c1,M.runR r,a2,g2,0,c2,M.runL r⟩,by rw [he,e1,e2],⟨rfl,rfl⟩,⟨i1,i2⟩⟩
theorem M.runFrom_inv {ll:List (List M.D)} {late:Bool} (hp:M.prog ll=true) (h3:ll.length≤3):∀ (turns:List Int) (s s':M.St),M.Inv ll s→M.runFrom late ll s turns=some s'→M.Inv ll s'
 | [],s,s',I,h=>by
  obtain rfl:=Option.some.inj h
  exact I
 | k::l,s,s',I,h=>by
  rw [M.runFrom] at h
  cases ht:s.turn? late ll k with
  | none=>rw [ht] at h;cases h
  | some s1 =>
   rw [ht] at h
   exact M.runFrom_inv hp h3 l s1 s' (I.turn hp h3 ht) h
theorem M.machQ_small (late:Bool) (n:Nat) (ll:List (List M.D)) (turns:List Int):(M.runR (M.machQ late n ll turns)).length≤1048576∧(M.runL (M.machQ late n ll turns)).length≤1048576:=by
 unfold M.machQ M.runQ
 split
 ·cases hp:M.prog ll
  ·simp [M.runR,M.runL]
  ·rw [if_pos rfl]
   have h3:=(M.prog_le hp).1
   split
   ·rename_i s hs
    have I:=M.runFrom_inv hp h3 turns _ _ (M.Inv.zero ll) hs
    split
    ·refine ⟨?_,by show s.at_.length≤_;rw [I.at_];omega⟩
     show s.reads.length≤_
     have h6:∀ i,i < 3→(s.t i).vals.length≤6:=fun i hi=>by
      rw [(I.each i hi).vals]
      exact Nat.le_trans (M.cnt_take_le _ _ _) (M.thOk_of hp i).rd
     have hth:=I.th
     match hl:s.th,hth with
     | [x,y,z],_ =>
      have e0:s.t 0=x:=by rw [M.St.t,hl];rfl
      have e1:s.t 1=y:=by rw [M.St.t,hl];rfl
      have e2:s.t 2=z:=by rw [M.St.t,hl];rfl
      have a0:=h6 0 (by omega)
      have a1:=h6 1 (by omega)
      have a2:=h6 2 (by omega)
      rw [e0] at a0;rw [e1] at a1;rw [e2] at a2
      unfold M.St.reads
      rw [hl]
      simp
      omega
    ·simp [M.runR,M.runL]
   ·simp [M.runR,M.runL]
 ·simp [M.runR,M.runL]
end
end Go.Proofs.Ytnddmlgnngdaoaa
