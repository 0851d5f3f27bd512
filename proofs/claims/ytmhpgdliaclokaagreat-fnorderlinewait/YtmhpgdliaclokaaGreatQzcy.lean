/- laws.lpKind and laws.lpPlace. Of at most 1048576 threads, steps and numbers. -/
import Derived.Deep.OwnRows
import Derived.Test.YtmhpgdliaclokaaGreatRows
import Derived.Test.YtmhpgdliaclokaaGreatQzbr
namespace Go.Proofs.YtmhpgdliaclokaaGreat
section
open Go.RowKit
set_option maxHeartbeats 1000000 in
set_option maxRecDepth 100000 in
theorem lpKindL_any (a:Option Addr) (b o c:Nat) (ll:List (List M.D)) (x:M.De) (w:World) (hox:M.OfEv ll x) (hl:ll.length≤1048576) (hls:∀ t∈ll,t.length≤1048576) (h:DoSS w a b o ll) :
  Calls Tryz.prog 16 #[.agg #[.slice a ll.length c],.agg #[.int .i64 x.t,.int .i64 x.i,.bool x.last]] w fun e w'=>e=.returned (.int .i64 x.d.k)∧Below w.heap.size w w':=by
 have hb0:=below2 w (.cells #[.slice a ll.length c] 25) (.cells #[.int .i64 (x.t:Int),.int .i64 (x.i:Int),.bool x.last] 42)
 have kb:((w.alloc (.cells #[.slice a ll.length c] 25)).alloc (.cells #[.int .i64 (x.t:Int),.int .i64 (x.i:Int),.bool x.last] 42)).cell? ⟨w.heap.size,0,none⟩=some (.slice a ll.length c):=by simp
 have k0:((w.alloc (.cells #[.slice a ll.length c] 25)).alloc (.cells #[.int .i64 (x.t:Int),.int .i64 (x.i:Int),.bool x.last] 42)).cell? ⟨w.heap.size+1,0,none⟩=some (.int .i64 x.t):=by simp
 have k1:((w.alloc (.cells #[.slice a ll.length c] 25)).alloc (.cells #[.int .i64 (x.t:Int),.int .i64 (x.i:Int),.bool x.last] 42)).cell? ⟨w.heap.size+1,1,none⟩=some (.int .i64 x.i):=by simp
 obtain ⟨ht,hi,ed⟩:=hox
 have h0:=h.below hb0 (Nat.le_refl _)
 obtain ⟨ta,tb,to',tc,kt,hTd⟩:=h0.row x.t ht
 obtain ⟨rfl⟩:=h0.addr (by omega)
 obtain ⟨rfl⟩:=hTd.addr (by omega)
 have hti:=hls _ (List.getElem_mem ht)
 obtain ⟨d0,-,-⟩:=hTd.row x.i hi
 rw [ed] at d0
 have i7:(x.t:Int) < ll.length:=by omega
 have i8:(x.i:Int) < ll[x.t].length:=by omega
 clear ed hTd h h0 hls
 generalize ll[x.t].length=tl at *
 go_enter Tryz.func16,Tryz.ntmps16
 go_wp2_with fail
 generalize (w.alloc (.cells #[.slice (some ⟨b,o,none⟩) ll.length c] 25)).alloc (.cells #[.int .i64 (x.t:Int),.int .i64 (x.i:Int),.bool x.last] 42)=W at *
 go_quiet (fail)
 go_wp2_with fail
 go_ret
 exact ⟨rfl,hb0.trans ⟨rfl,rfl,rfl,Nat.le_refl _,fun _ _=>rfl⟩⟩
set_option maxHeartbeats 1000000 in
set_option maxRecDepth 100000 in
theorem lpPlace_any (a:Option Addr) (b c:Nat) (l:List Int) (x:Int) (w:World) (hl:l.length≤1048576) (h:IntS w a b 0 l) :
  Calls Tryz.prog 17 #[.slice a l.length c,.int .i64 x] w fun e w'=>e=.returned (.int .i64 (M.placeI l x))∧Below w.heap.size w w':=by
 obtain ⟨res,hres⟩:∃ res,M.placeI l x=res:=⟨_,rfl⟩
 rw [hres]
 have HR:Hid (M.placeI l x=res):=hres
 clear hres
 go_enter Tryz.func17,Tryz.ntmps17
 go_wp2_with fail
 go_loopw [5] (fun s5 wr=>∃ i:Nat,s5=.int .i64 i∧i≤l.length∧Hid (∀ j (_:j < l.length),j < i→l[j]≠x)∧Below w.heap.size w wr) (fun s5 _=>l.length - (intOf s5).toNat)
 case atStart=>exact ⟨0,rfl,Nat.zero_le _,(fun j _ h=>absurd h (Nat.not_lt_zero _):∀ j (_:j < l.length),j < 0→l[j]≠x),Below.refl _ _⟩
 case round =>
  obtain ⟨i,rfl,hi,HN,hb⟩:=hrel
  by_cases hlt:i < l.length
  ·have i1:(i:Int) < l.length:=by omega
   have i0:¬ (i:Int) < 0:=by omega
   obtain ⟨rfl⟩:=h.addr (by omega)
   have a0:=(h.below hb (Nat.le_refl _)).row i hlt
   rw [Nat.zero_add] at a0
   obtain ⟨u,hu⟩:∃ u,l[i]=u:=⟨_,rfl⟩
   rw [hu] at a0
   by_cases he:u=x
   ·have HR2:Hid ((i:Int)=res):=by
     show _=_
     rw [← HR.out]
     exact (M.placeI_at hlt (hu.trans he) (fun j hj=>HN.out j (by omega) hj)).symm
    have e1:(u==x)=true:=by simpa using he
    clear hu he HN HR
    go_wp2_with fail
    go_ret
    exact ⟨by rw [HR2.out];rfl,hb⟩
   ·have HN2:Hid (∀ j (_:j < l.length),j < i+1→l[j]≠x):=by
     show ∀ j (_:j < l.length),j < i+1→l[j]≠x
     intro j hj hji
     rcases Nat.lt_or_ge j i with h1 | h1
     ·exact HN.out j hj h1
     ·obtain rfl:j=i:=by omega
      rw [hu];exact he
    have e1:(u==x)=false:=by simpa using he
    clear hu he HN
    go_wp2_with fail
    exact ⟨⟨i+1,by go_num,by omega,HN2,hb⟩,by simp [intOf];omega⟩
  ·obtain rfl:i=l.length:=by omega
   have HR2:Hid ((-1:Int)=res):=by
    show _=_
    rw [← HR.out]
    exact (M.placeI_none (fun j hj=>HN.out j hj hj)).symm
   clear HN HR
   go_wp2_with fail
   go_ret
   exact ⟨by rw [HR2.out];rfl,hb⟩
end
end Go.Proofs.YtmhpgdliaclokaaGreat
