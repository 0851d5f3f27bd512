/- The way in which one thread goes behind the other, each reading what was written last: it holds by each order. Plainly. Of a program. What must be ahead of what: nothing of itself; and what must by a looser order must by a stricter one. Plainly. No condition. What holds by a stricter order holds by a looser one. Plainly. No condition. -/
import Derived.Test.YtjjkicffhpcngaaGreatBWav
namespace Go.Proofs.YtjjkicffhpcngaaGreat
namespace M
theorem deD_k (t i:Nat) (lr:Int) (n:Nat) (d:D):∀ x∈deD t i lr n d,x.d=d:=by
 intro x hx
 unfold deD at hx
 split at hx
 ·rcases List.mem_cons.1 hx with rfl | hx
  ·rfl
  ·rw [List.mem_singleton.1 hx]
 ·rw [List.mem_singleton.1 hx]
end M
end Go.Proofs.YtjjkicffhpcngaaGreat
namespace Go.Proofs.YtjjkicffhpcngaaGreat
namespace M
theorem must_told {ll:List (List D)} {l:List Int} {rows:List (List Int)} (h:execOk ll l rows=true) (k:Nat) {a b:Nat} (ha:a < (deeds ll).length) (hb:b < (deeds ll).length):mustAt (deeds ll) l rows k a b=(stays (deeds ll) k a b (deeds ll)[a] (deeds ll)[b]||told l rows k a b (deeds ll)[a] (deeds ll)[b]):=by
 simp only [execOk,wayOk,Bool.and_eq_true] at h
 obtain ⟨hp,hf,_⟩:=h
 have hr:run false (deeds ll)=some false:=by
  simp only [prog,Bool.and_eq_true,decide_eq_true_eq] at hp
  exact run_ok (from_thr ll 0 0 hp.2)
 rw [mustAt,List.getElem?_eq_getElem ha,List.getElem?_eq_getElem hb]
 exact (must_eq hf hr k ha hb).symm
theorem rw_no (k:Int):(writes k&&reads k)=false:=by
 cases h:reads k
 ·simp
 ·simp only [reads,Bool.or_eq_true,beq_iff_eq] at h
  rcases h with rfl | rfl<;>decide
theorem keeps_no {ds:List De} {a b:Nat} {x y:De} (h:sKeeps ds a b x y=true):(writes x.d.k&&reads y.d.k)=false:=by
 cases hw:writes x.d.k
 ·rfl
 ·cases hr:reads y.d.k
  ·rfl
  ·exfalso
   have e1:x.d.k=1∨x.d.k=6∨x.d.k=3:=by
    simp only [writes,stores,Bool.or_eq_true,beq_iff_eq] at hw
    omega
   have e2:y.d.k=2∨y.d.k=5:=by
    simpa only [reads,Bool.or_eq_true,beq_iff_eq] using hr
   simp only [sKeeps,isWall,inside,copyOf,Bool.or_eq_true,Bool.and_eq_true,beq_iff_eq] at h
   omega
end M
end Go.Proofs.YtjjkicffhpcngaaGreat
namespace Go.Proofs.YtjjkicffhpcngaaGreat
namespace M
theorem sat_less:∀ cs:List Ch,∀ L L':List Lk,(∀ l∈L',l∈L)→Sat L cs→Sat L' cs:=by
 intro cs
 induction cs with
 | nil=>intro L L' h hs;rw [sat_nil] at hs ⊢;exact fun hr=>hs (hr.sub fun l hl=>.one (h l hl))
 | cons c cs ih =>
  intro L L' h hs
  rw [sat_cons] at hs ⊢
  have up:∀ (x:Lk),∀ l∈x::L',l∈x::L:=fun x l hl=>by
   rcases List.mem_cons.1 hl with e | e
   ·exact List.mem_cons.2 (.inl e)
   ·exact List.mem_cons.2 (.inr (h l e))
  exact hs.imp (ih _ _ (up _)) (ih _ _ (up _))
theorem waits_less {n:Nat} {A A':Nat→Nat→Bool} {cs:List Ch} (hi:∀ c∈cs,Inn n c) (h:∀ a b,a < n→b < n→A' a b=true→A a b=true) (hs:waitsA n A cs=true):waitsA n A' cs=true:=by
 rw [waits_ok n cs _ hi] at hs ⊢
 exact sat_less cs _ _ (fun l hl=>by
  obtain ⟨a,b⟩:=l
  obtain ⟨ha,hb,hA⟩:=mem_links.1 hl
  exact mem_links.2 ⟨ha,hb,h a b ha hb hA⟩) hs
theorem holds_less {ll:List (List D)} {l:List Int} {rows:List (List Int)} {k k':Nat} (h1:1≤k') (h3:k'≤3) (hs:∀ (a b:Nat) (x y:De),stays (deeds ll) k' a b x y=true→stays (deeds ll) k a b x y=true) (ht:∀ (a b:Nat) (x y:De),told l rows k' a b x y=true→told l rows k a b x y=true) (h:orderHolds ll l rows k=true):orderHolds ll l rows k'=true:=by
 simp only [orderHolds,Bool.and_eq_true,decide_eq_true_eq,Int.toNat_natCast] at h ⊢
 obtain ⟨_,he,h0,hw⟩:=h
 refine ⟨⟨by omega,by omega⟩,he,h0,?_⟩
 have hp:prog ll=true:=by
  simp only [execOk,Bool.and_eq_true] at he
  exact he.1
 refine waits_less (fun c hc=>(choices_ok (run_of hp) c hc).1) (fun a b ha hb hA=>?_) hw
 unfold netOf at hA ⊢
 rw [must_told he _ ha hb,Bool.or_eq_true] at hA ⊢
 exact hA.imp (hs _ _ _ _) (ht _ _ _ _)
theorem holds_late {ll:List (List D)} {l:List Int} {rows:List (List Int)} (h:orderHolds ll l rows 1=true):orderHolds ll l rows 2=true :=
 holds_less (k:=1) (k':=2) (by decide) (by decide) (fun a b x y h=>by
  simp only [stays,late,Bool.and_eq_true] at h ⊢;exact h.1) (fun a b x y h=>by
  simp only [told,Bool.or_eq_true,Bool.and_eq_true] at h ⊢;exact h.imp (·.2) id) h
theorem holds_loose {ll:List (List D)} {l:List Int} {rows:List (List Int)} (h:orderHolds ll l rows 2=true):orderHolds ll l rows 3=true :=
 holds_less (k:=2) (k':=3) (by decide) (by decide) (fun a b x y h=>by
  simp only [stays,late,Bool.and_eq_true] at h ⊢
  exact ⟨h.1,by rw [keeps_no h.2];rfl⟩) (fun a b x y h=>by
  simp only [told,Bool.or_eq_true,Bool.and_eq_true] at h ⊢
  rcases h with ⟨h1,h2 | h2⟩
  ·exact .inl ⟨h1,h2⟩
  ·exact .inr h2) h
end M
end Go.Proofs.YtjjkicffhpcngaaGreat
