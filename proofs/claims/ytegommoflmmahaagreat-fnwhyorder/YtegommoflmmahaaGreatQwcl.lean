/- What holds by a stricter order holds by a looser one. Plainly. No condition. -/
import Derived.Test.YtegommoflmmahaaGreatRows
import Derived.Test.YtegommoflmmahaaGreatQwba
import Derived.Test.YtegommoflmmahaaGreatQwck
namespace Go.Proofs.YtegommoflmmahaaGreat
section
namespace M
theorem sat_less:∀ cs:List Ch,∀ L L':List Lk,(∀ l∈L',l∈L)→Sat L cs→Sat L' cs:=by
 intro cs
 induction cs with
 | nil=>intro L L' h hs;rw [sat_nil] at hs ⊢;exact fun hr=>hs (hr.sub fun l hl=>.one (h l hl))
 | cons c cs ih =>
  intro L L' h hs
  rw [sat_cons] at hs ⊢
  have up:∀ (x:Lk),∀ l∈x::L',l∈x::L:=fun x l hl=>by
   rcases List.mem_cons.1 hl with e | e
   ·exact List.mem_cons.2 (.inl e)
   ·exact List.mem_cons.2 (.inr (h l e))
  exact hs.imp (ih _ _ (up _)) (ih _ _ (up _))
theorem waits_less {n:Nat} {A A':Nat→Nat→Bool} {cs:List Ch} (hi:∀ c∈cs,Inn n c) (h:∀ a b,a < n→b < n→A' a b=true→A a b=true) (hs:waitsA n A cs=true):waitsA n A' cs=true:=by
 rw [waits_ok n cs _ hi] at hs ⊢
 exact sat_less cs _ _ (fun l hl=>by
  obtain ⟨a,b⟩:=l
  obtain ⟨ha,hb,hA⟩:=mem_links.1 hl
  exact mem_links.2 ⟨ha,hb,h a b ha hb hA⟩) hs
theorem holds_less {ll:List (List D)} {l:List Int} {rows:List (List Int)} {k k':Nat} (h1:1≤k') (h3:k'≤3) (hs:∀ (a b:Nat) (x y:De),stays (deeds ll) k' a b x y=true→stays (deeds ll) k a b x y=true) (ht:∀ (a b:Nat) (x y:De),told l rows k' a b x y=true→told l rows k a b x y=true) (h:orderHolds ll l rows k=true):orderHolds ll l rows k'=true:=by
 simp only [orderHolds,Bool.and_eq_true,decide_eq_true_eq,Int.toNat_natCast] at h ⊢
 obtain ⟨_,he,h0,hw⟩:=h
 refine ⟨⟨by omega,by omega⟩,he,h0,?_⟩
 have hp:prog ll=true:=by
  simp only [execOk,Bool.and_eq_true] at he
  exact he.1
 refine waits_less (fun c hc=>(choices_ok (run_of hp) c hc).1) (fun a b ha hb hA=>?_) hw
 unfold netOf at hA ⊢
 rw [must_told he _ ha hb,Bool.or_eq_true] at hA ⊢
 exact hA.imp (hs _ _ _ _) (ht _ _ _ _)
theorem holds_late {ll:List (List D)} {l:List Int} {rows:List (List Int)} (h:orderHolds ll l rows 1=true):orderHolds ll l rows 2=true :=
 holds_less (k:=1) (k':=2) (by decide) (by decide) (fun a b x y h=>by
  simp only [stays,late,Bool.and_eq_true] at h ⊢;exact h.1) (fun a b x y h=>by
  simp only [told,Bool.or_eq_true,Bool.and_eq_true] at h ⊢;exact h.imp (·.2) id) h
theorem holds_loose {ll:List (List D)} {l:List Int} {rows:List (List Int)} (h:orderHolds ll l rows 2=true):orderHolds ll l rows 3=true :=
 holds_less (k:=2) (k':=3) (by decide) (by decide) (fun a b x y h=>by
  simp only [stays,late,Bool.and_eq_true] at h ⊢
  exact ⟨h.1,by rw [keeps_no h.2];rfl⟩) (fun a b x y h=>by
  simp only [told,Bool.or_eq_true,Bool.and_eq_true] at h ⊢
  rcases h with ⟨h1,h2 | h2⟩
  ·exact .inl ⟨h1,h2⟩
  ·exact .inr h2) h
end M
end
end Go.Proofs.YtegommoflmmahaaGreat
