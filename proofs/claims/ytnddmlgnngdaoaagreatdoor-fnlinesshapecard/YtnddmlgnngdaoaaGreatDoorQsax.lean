/- spec's ways: the step of an event, whether a number is among others. Of at most 1048576 threads, steps and numbers. And what goes with it: OsDo, OsVal, OsEq, OsOk. -/
import Derived.Test.YtnddmlgnngdaoaaGreatDoorRows
import Derived.Test.YtnddmlgnngdaoaaGreatDoorQsat
namespace Go.Proofs.YtnddmlgnngdaoaaGreatDoor
section
open Go.RowKit
def M.OfEv (ll:List (List M.D)) (x:M.De):Prop:=∃ (ht:x.t < ll.length) (hi:x.i < ll[x.t].length),ll[x.t][x.i]=x.d
theorem M.ofEv {ll:List (List M.D)}:∀ x∈M.deeds ll,M.OfEv ll x:=by
 have hT:∀ (ll:List (List M.D)) (t:Nat) (ht:t < ll.length) (l:List M.D) (i:Nat) (lr:Int) (n:Nat),ll[t].drop i=l→∀ x∈M.deT t i lr n l,M.OfEv ll x:=by
  intro ll t ht l
  induction l with
  | nil=>intro i lr n _ x hx;simp [M.deT] at hx
  | cons d l ih =>
   intro i lr n hd x hx
   have hi:i < ll[t].length:=by
    rcases Nat.lt_or_ge i ll[t].length with h | h
    ·exact h
    ·rw [List.drop_eq_nil_of_le h] at hd;cases hd
   rw [← List.getElem_cons_drop hi] at hd
   obtain ⟨hd1,hd2⟩:=List.cons.inj hd
   rw [M.deT] at hx
   rcases List.mem_append.1 hx with hx | hx
   ·have:x.t=t∧x.i=i∧x.d=d:=by
     unfold M.deD at hx
     split at hx
     ·simp only [List.mem_cons,List.not_mem_nil,or_false] at hx
      rcases hx with rfl | rfl<;>exact ⟨rfl,rfl,rfl⟩
     ·simp only [List.mem_cons,List.not_mem_nil,or_false] at hx
      subst hx;exact ⟨rfl,rfl,rfl⟩
    obtain ⟨xt,xi,xl,xd,xr⟩:=x
    obtain ⟨rfl,rfl,rfl⟩:=this
    exact ⟨ht,hi,hd1⟩
   ·exact ih _ _ _ hd2 x hx
 have hF:∀ (ll:List (List M.D)) (l:List (List M.D)) (t n:Nat),ll.drop t=l→∀ x∈M.deF t n l,M.OfEv ll x:=by
  intro ll l
  induction l with
  | nil=>intro t n _ x hx;simp [M.deF] at hx
  | cons d l ih =>
   intro t n hd x hx
   have ht:t < ll.length:=by
    rcases Nat.lt_or_ge t ll.length with h | h
    ·exact h
    ·rw [List.drop_eq_nil_of_le h] at hd;cases hd
   rw [← List.getElem_cons_drop ht] at hd
   obtain ⟨hd1,hd2⟩:=List.cons.inj hd
   rw [M.deF] at hx
   rcases List.mem_append.1 hx with hx | hx
   ·exact hT ll t ht d 0 _ _ (by rw [hd1];rfl) x hx
   ·exact ih _ _ hd2 x hx
 exact hF ll ll 0 0 rfl
end
section
open Go.RowKit
def M.val (ds:List M.De) (l:List Int):Nat→Int→Int
 | 0,i=>if i < 0 then 0 else -1
 | m+1,i=>if i < 0 then 0 else match ds[i.toNat]? with
  | none=>0
  | some x=>if x.reads then M.val ds l m (l.getD i.toNat 0) else if x.d.k==3 then M.val ds l m x.lr else x.d.v
theorem M.val_neg (ds:List M.De) (l:List Int) (m:Nat) {i:Int} (h:i < 0):M.val ds l m i=0:=by
 cases m<;>simp [M.val,h]
theorem M.val_at (ds:List M.De) (l:List Int) (m n:Nat) (h:n < ds.length) (h2:n < l.length):M.val ds l (m+1) n=if ds[n].reads then M.val ds l m l[n] else if ds[n].d.k==3 then M.val ds l m ds[n].lr else ds[n].d.v:=by
 rw [M.val,if_neg (by omega),Int.toNat_natCast,List.getElem?_eq_getElem h,List.getD_eq_getElem?_getD,List.getElem?_eq_getElem h2]
 rfl
end
section
theorem nodup_le:∀ {l m:List Int},l.Nodup→(∀ x∈l,x∈m)→l.length≤m.length:=by
 intro l
 induction l with
 | nil=>intro m _ _;exact Nat.zero_le _
 | cons x l ih =>
  intro m hn hs
  obtain ⟨hx,hl⟩:=List.nodup_cons.1 hn
  have hm:=hs x (List.mem_cons_self ..)
  have:=ih (m:=m.erase x) hl (fun y hy=>by
   have hne:y≠x:=fun e=>hx (e▸hy)
   exact (List.mem_erase_of_ne hne).2 (hs y (List.mem_cons_of_mem _ hy)))
  rw [List.length_erase_of_mem hm] at this
  have hpos:0 < m.length:=List.length_pos_of_mem hm
  simp only [List.length_cons]
  omega
theorem nodup_all {l m:List Int} (hn:l.Nodup) (hs:∀ x∈l,x∈m) (hlen:m.length=l.length):∀ y∈m,y∈l:=by
 intro y hy
 rcases Classical.em (y∈l) with h | h
 ·exact h
 ·have:=nodup_le (l:=y::l) (m:=m) (List.nodup_cons.2 ⟨h,hn⟩) (fun x hx=>by
   rcases List.mem_cons.1 hx with rfl | hx
   ·exact hy
   ·exact hs x hx)
  simp only [List.length_cons] at this
  omega
theorem M.isRow_mem {ds:List M.De} {p:Int} {row:List Int} (h:M.isRow row (M.wrs p 0 ds)=true) (f:Int):f∈row↔f∈M.wrs p 0 ds:=by
 simp only [M.isRow,Bool.and_eq_true,decide_eq_true_eq,List.all_eq_true] at h
 obtain ⟨hlen,hall⟩:=h
 have hs:∀ x∈M.wrs p 0 ds,x∈row:=fun x hx=>by simpa using hall x hx
 exact ⟨nodup_all (M.nodup_wrs p ds 0) hs hlen f,hs f⟩
theorem M.orderAt_get {ds:List M.De}:∀ {rows:List (List Int)} {p:Nat},M.orderAt ds p rows=true→∀ n (h:n < rows.length),M.isRow rows[n] (M.wrs ((p+n:Nat):Int) 0 ds)=true:=by
 intro rows
 induction rows with
 | nil=>intro p _ n h;exact absurd h (Nat.not_lt_zero _)
 | cons row rows ih =>
  intro p h n hn
  simp only [M.orderAt,Bool.and_eq_true] at h
  cases n with
  | zero=>exact h.1
  | succ n =>
   have:=ih h.2 n (by simpa using hn)
   rw [show p+1+n=p+(n+1) from by omega] at this
   simpa using this
end
section
open Go.RowKit
theorem M.prog_do {ll:List (List M.D)} (h:M.prog ll=true):∀ l∈ll,∀ d∈l,M.doOk d=true:=by
 simp only [M.prog,Bool.and_eq_true,decide_eq_true_eq] at h
 have key:∀ (ll:List (List M.D)) (a u:Nat),M.progFrom a u ll=true→∀ l∈ll,∀ d∈l,M.doOk d=true:=by
  intro ll
  induction ll with
  | nil=>intro a u _ l hl;cases hl
  | cons x ll ih =>
   intro a u hp l hl
   simp only [M.progFrom] at hp
   split at hp
   ·rename_i hx
    rcases List.mem_cons.1 hl with rfl | hl
    ·simp only [M.thread,Bool.and_eq_true,M.form,List.all_eq_true] at hx
     exact hx.1.1.2
    ·exact ih _ _ hp l hl
   ·cases hp
 exact key ll 0 0 h.2
theorem M.deed_do {ll:List (List M.D)} (h:M.prog ll=true):∀ x∈M.deeds ll,M.doOk x.d=true:=by
 intro x hx
 obtain ⟨ht,hi,e⟩:=M.ofEv x hx
 rw [← e]
 exact M.prog_do h _ (List.getElem_mem ht) _ (List.getElem_mem hi)
end
end Go.Proofs.YtnddmlgnngdaoaaGreatDoor
