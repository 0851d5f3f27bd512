/- The plain machine beside spec's: in the strict one nothing is ever still to come; when a step can be done, in spec's words. No condition. -/
import Derived.Test.YtnddmlgnngdaoaaRows
import Derived.Test.YtnddmlgnngdaoaaQjar
namespace Go.Proofs.Ytnddmlgnngdaoaa
section
namespace M
def St.dry (s:St):Prop:=∀ t,t < 3→(s.t t).pend=[]
theorem St.dry0:st0.dry:=fun t ht=>by
 match t,ht with
 | 0,_=>rfl
 | 1,_=>rfl
 | 2,_=>rfl
theorem St.dry_put {s:St} {t:Nat} {x:Th} (h:s.dry) (ht:t < s.th.length) (hx:x.pend=[]):(s.put t x).dry:=fun i hi=>by
 rw [t_put _ _ _ _ ht]
 split
 ·exact hx
 ·exact h i hi
theorem St.dry_bump {s:St} {t:Nat} (h:s.dry) (ht:t < s.th.length) (h3:t < 3):(s.bump t).dry:=St.dry_put h ht (h t h3)
theorem St.dry_write {s:St} {t:Nat} {p v:Int} (h:s.dry) (ht:t < s.th.length) (h3:t < 3):(s.write false t p v).dry:=by
 have e:(s.later t p v).t t={ s.t t with pend:=[(p,v)] }:=by
  unfold St.later
  rw [t_put _ _ _ _ ht,if_pos rfl,h t h3]
  rfl
 unfold St.write
 rw [if_neg (by decide)]
 unfold St.come
 rw [e]
 intro i hi
 show (St.t (St.put (s.later t p v) t { s.t t with pend:=[] }) i).pend=[]
 rw [t_put _ _ _ _ (by unfold St.later;rw [put_len];exact ht)]
 split
 ·rfl
 ·rename_i hne
  unfold St.later
  rw [t_put _ _ _ _ ht,if_neg hne]
  exact h i hi
theorem St.dry_step {ll:List (List D)} {s:St} {t:Nat} {d:D} (h:s.dry) (I:Inv ll s) (h3:t < 3):(s.stepD false t d).dry:=by
 have hl:t < s.th.length:=by rw [I.th];exact h3
 have wr:∀ p v,((s.write false t p v).bump t).dry:=fun p v=>St.dry_bump (St.dry_write h hl h3) (by rw [write_len];exact hl) h3
 unfold St.stepD
 split
 ·unfold St.keep;exact St.dry_bump (St.dry_put h hl (h t h3)) (by rw [put_len];exact hl) h3
 split
 ·exact wr _ _
 split
 ·exact wr _ _
 split
 ·unfold St.goIn;exact St.dry_bump (St.dry_put h hl (h t h3)) (by rw [put_len];exact hl) h3
 split
 ·refine St.dry_bump (fun i hi=>?_) (by rw [goOut_len];exact hl) h3
  rw [goOut_t _ _ _ I.th hi]
  exact (St.dry_put h hl (x:={ s.t t with inn:=false }) (h t h3)) i hi
 split
 ·split
  ·unfold St.stop;exact St.dry_bump (St.dry_put h hl (h t h3)) (by rw [put_len];exact hl) h3
  ·unfold St.begin_;exact St.dry_put h hl (h t h3)
 ·exact St.dry_bump h hl h3
theorem St.turn_dry {ll:List (List D)} {s:St} (h:s.dry) (h3:ll.length≤3) (k:Int):s.turn? false ll k=if 0≤k∧k < ll.length then s.step? false ll k.toNat else none:=by
 unfold St.turn?
 split
 ·rfl
 ·split
  ·rename_i h1 h2
   unfold St.land?
   rw [h _ (by omega)]
   rfl
  ·rfl
theorem St.dry_turn {ll:List (List D)} {s s':St} {k:Int} (h:s.dry) (I:Inv ll s) (h3:ll.length≤3) (hs:s.turn? false ll k=some s'):s'.dry:=by
 rw [St.turn_dry h h3] at hs
 split at hs
 ·unfold St.step? at hs
  split at hs
  ·cases hs
  ·split at hs
   ·obtain rfl:=Option.some.inj hs
    exact St.dry_step h I (by omega)
   ·cases hs
 ·cases hs
end M
end
end Go.Proofs.Ytnddmlgnngdaoaa
