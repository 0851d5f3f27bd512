/- The order of what was seen is one: two are the same, or one stands ahead; what stands ahead of what stands ahead stands ahead. No condition. The laws' own comparing: laws.lpInts, lpSame. Of lists of at most 1048576 numbers. -/
import Derived.BigQuiet
import Derived.Deep.Quiet
import Derived.Deep.QuietTactic
import Derived.Deep.RegionHeld3
import Derived.Deep.RegionWith
import Derived.Sort.Grow
import Derived.WalkKit
import Derived.WalkLawsBesides
import Derived.WalkSpells
import Derived.Test.YtihfibjckkmmbaaGreatRows
import Derived.Test.YtihfibjckkmmbaaGreatQhbc
namespace Go.Proofs.YtihfibjckkmmbaaGreat
namespace M
theorem same_eq:∀ l m:List Int,same l m=true↔l=m
 | [],[]=>by simp [same]
 | [],_::_=>by simp [same]
 | _::_,[]=>by simp [same]
 | x::l,y::m=>by simp [same,same_eq l m]
def sameS (a1 a2 b1 b2:List Int):Bool:=same a1 b1&&same a2 b2
theorem sameS_eq (a1 a2 b1 b2:List Int):sameS a1 a2 b1 b2=decide (cmpS a1 a2 b1 b2=0):=by
 by_cases h:cmpS a1 a2 b1 b2=0
 ·obtain ⟨rfl,rfl⟩:=cmpS_zero h
  simp [sameS,h,(same_eq _ _).2]
 ·rw [decide_eq_false h]
  by_cases h1:a1=b1
  ·by_cases h2:a2=b2
   ·subst h1;subst h2;exact absurd (cmpS_self _ _) h
   ·have:same a2 b2=false:=by
     cases e:same a2 b2
     ·rfl
     ·exact absurd ((same_eq _ _).1 e) h2
    rw [sameS,this,Bool.and_false]
  ·have:same a1 b1=false:=by
    cases e:same a1 b1
    ·rfl
    ·exact absurd ((same_eq _ _).1 e) h1
   rw [sameS,this,Bool.false_and]
theorem same_len {l m:List Int} (h:l.length≠m.length):same l m=false:=by
 cases e:same l m
 ·rfl
 ·exact absurd (congrArg List.length ((same_eq _ _).1 e)) h
theorem same_bad {l m:List Int} {n:Nat} {x y:Int} (hd:l.drop n=x::l.drop (n+1)) (hm:m.drop n=y::m.drop (n+1)) (hxy:¬ x=y):same l m=false:=by
 cases e:same l m
 ·rfl
 ·have:=(same_eq _ _).1 e
  subst this
  rw [hd] at hm
  simp at hm
  exact absurd hm hxy
theorem same_fin {l m:List Int} (hl:l.length=m.length) (h:∀ q (h1:q < l.length) (h2:q < m.length),l[q]=m[q]):same l m=true :=
 (same_eq _ _).2 (List.ext_getElem hl h)
end M
end Go.Proofs.YtihfibjckkmmbaaGreat
namespace Go.Proofs.YtihfibjckkmmbaaGreat
open Go.RowKit
set_option maxHeartbeats 400000 in
theorem lpInts_any (a:Option Addr) (b o c:Nat) (l:List Int) (a2:Option Addr) (b2 o2 c2:Nat) (m:List Int) (w:World) (hl:l.length≤1048576) (h:IntS w a b o l) (h2:IntS w a2 b2 o2 m) :
  Calls Tryz.prog 83 #[.slice a l.length c,.slice a2 m.length c2] w fun e w'=>e=.returned (.bool (M.same l m))∧Grown w w':=by
 by_cases hlm:l.length=m.length
 ·have hlm':((l.length:Int)==m.length)=true:=by simp;omega
  have hlm2:(l.length:Int)=m.length:=by omega
  go_enter Tryz.func83,Tryz.ntmps83
  go_wp2_with fail
  go_loopw [5] (fun s5 wr=>∃ n:Nat,s5=.int .i64 n∧n≤l.length∧(∀ q (_:q < n) (h1:q < l.length) (h2:q < m.length),l[q]=m[q])∧Grown w wr) (fun s5 _=>l.length - (intOf s5).toNat)
  case atStart=>exact ⟨0,rfl,Nat.zero_le _,fun _ hq _ _=>absurd hq (Nat.not_lt_zero _),Grown.refl _⟩
  case round =>
   obtain ⟨n,rfl,hn,hall,hg⟩:=hrel
   have HA:Hid (∀ q (_:q < n) (h1:q < l.length) (h2:q < m.length),l[q]=m[q]):=hall
   clear hall
   by_cases hlt:n < l.length
   ·have hmt:n < m.length:=by omega
    obtain ⟨rfl⟩:=h.addr (by omega)
    obtain ⟨rfl⟩:=h2.addr (by omega)
    have hc:=(h.below hg.bel (Nat.le_refl _)).row n hlt
    have hc2:=(h2.below hg.bel (Nat.le_refl _)).row n hmt
    have HD:Hid (l.drop n=l[n]::l.drop (n+1)):=M.drop_int l n hlt
    have HD2:Hid (m.drop n=m[n]::m.drop (n+1)):=M.drop_int m n hmt
    have i1:(n:Int) < l.length:=by omega
    have i2:(n:Int) < m.length:=by omega
    by_cases hxy:l[n]=m[n]
    ·have HX:Hid (l[n]=m[n]):=hxy
     rw [← hxy] at hc2
     clear hxy HD HD2
     generalize l[n]=x at hc hc2
     go_wp2_with fail
     go_quiet (fail)
     go_wp2_with fail
     exact ⟨⟨n+1,by go_num,by omega,fun q hq h1 h2=>by
      by_cases e:q=n
      ·subst e;exact HX.out
      ·exact HA.out q (by omega) h1 h2,hg.drewN _⟩,by simp [intOf];omega⟩
    ·generalize l[n]=x at hc hxy HD
     generalize m[n]=y at hc2 hxy HD2
     have hxy':(x==y)=false:=by simpa using hxy
     go_wp2_with fail
     go_quiet (fail)
     go_wp2_with fail
     go_ret
     exact ⟨ret_bool (M.same_bad HD.out HD2.out hxy).symm,hg.drewN _⟩
   ·go_wp2_with fail
    go_ret
    exact ⟨ret_bool (M.same_fin hlm fun q h1 h2=>HA.out q (by omega) h1 h2).symm,hg⟩
 ·have hlm':((l.length:Int)==m.length)=false:=by simp;omega
  have hlm2:¬ (l.length:Int)=m.length:=by omega
  go_enter Tryz.func83,Tryz.ntmps83
  go_wp2_with fail
  go_ret
  exact ⟨ret_bool (M.same_len hlm).symm,Grown.refl _⟩
set_option maxHeartbeats 400000 in
theorem lpSame_any (s t:Sn) (w:World) (hs:s.Le 1048576) (hsa:s.At w) (hta:t.At w) :
  Calls Tryz.prog 47 #[.agg #[.slice s.a1 s.l1.length s.c1,.slice s.a2 s.l2.length s.c2],.agg #[.slice t.a1 t.l1.length t.c1,.slice t.a2 t.l2.length t.c2]] w fun e w'=>e=.returned (.bool (M.sameS s.l1 s.l2 t.l1 t.l2))∧Grown w w':=by
 have hga:=hsa.grown (alloc2 w (.cells #[.slice s.a1 s.l1.length s.c1,.slice s.a2 s.l2.length s.c2] 35) (.cells #[.slice t.a1 t.l1.length t.c1,.slice t.a2 t.l2.length t.c2] 35))
 have hgb:=hta.grown (alloc2 w (.cells #[.slice s.a1 s.l1.length s.c1,.slice s.a2 s.l2.length s.c2] 35) (.cells #[.slice t.a1 t.l1.length t.c1,.slice t.a2 t.l2.length t.c2] 35))
 have C1:=lpInts_any s.a1 s.b1 s.o1 s.c1 s.l1 t.a1 t.b1 t.o1 t.c1 t.l1 _ hs.reads hga.reads hgb.reads
 obtain ⟨r1,hr1⟩:∃ r,M.same s.l1 t.l1=r:=⟨_,rfl⟩
 rw [hr1] at C1
 cases r1
 ·go_enter Tryz.func47,Tryz.ntmps47
  go_wp2_with fail
  refine C1.mono ?_
  rintro e w1 ⟨rfl,hg1⟩
  go_wp2_with fail
  go_ret
  exact ⟨ret_bool (by simp [M.sameS,hr1]),(alloc2 w _ _).trans hg1⟩
 ·go_enter Tryz.func47,Tryz.ntmps47
  go_wp2_with fail
  refine C1.mono ?_
  rintro e w1 ⟨rfl,hg1⟩
  obtain ⟨hc1,hf1⟩:=bcell hg1.bel
  have C2:=lpInts_any s.a2 s.b2 s.o2 s.c2 s.l2 t.a2 t.b2 t.o2 t.c2 t.l2 _ hs.last (hga.grown hg1).last (hgb.grown hg1).last
  go_wp2_with fail
  refine C2.mono ?_
  rintro e w2 ⟨rfl,hg2⟩
  go_wp2_with fail
  go_ret
  exact ⟨ret_bool (by simp [M.sameS,hr1]),((alloc2 w _ _).trans hg1).trans hg2⟩
end Go.Proofs.YtihfibjckkmmbaaGreat
