/- The law's own sizing, copying and comparing of numbers: laws.szIntS, toIntS, eqIntS. Of lists of at most 1048576 numbers (sizing: of at most 9223372036854775807). impl's ProgOk. Of programs of at most 1048576 threads, each of at most 1048576 steps. -/
import Derived.Deep.OwnRows
import Derived.Test.YtegommoflmmahaaGreatRows
import Derived.Test.YtegommoflmmahaaGreatQuac
import Derived.Test.YtegommoflmmahaaGreatQuaf
import Derived.Test.YtegommoflmmahaaGreatQuag
namespace Go.Proofs.YtegommoflmmahaaGreat
section
open Go.RowKit
set_option maxHeartbeats 400000 in
theorem szIntS_any (a:Option Addr) (n c:Nat) (left:Int) (w:World) (h0:0≤left) (h1:left≤1048576) (hn:n≤9223372036854775807) :
  Calls Tryz.prog 66 #[.slice a n c,.int .i64 left] w fun e w'=>∃ r:Int,e=.returned (.int .i64 r)∧w'=w∧r≤1048576∧(r < 0∨(0≤r∧n≤1048576)):=by
 by_cases hs:left - n < 0
 ·go_enter Tryz.func66,Tryz.ntmps66
  go_wp2_with fail
  go_ret
  exact ⟨-1,rfl,rfl,by omega,Or.inl (by omega)⟩
 ·go_enter Tryz.func66,Tryz.ntmps66
  go_wp2_with fail
  go_ret
  exact ⟨left - n,rfl,rfl,by omega,Or.inr ⟨by omega,by omega⟩⟩
theorem Tryz.info3:(Tryz.prog.info? 3).map (fun i=>(i.zero,i.size,i.bytes))=some (some (.int .i64 0),1,8):=by kernel_rfl
structure PartI (w wr:World) (l:List Int) (n:Nat):Prop where
 bel:Below w.heap.size w wr
 own:∃ f,wr.rowIs w.heap.size 3 l.length f
 done:∀ q (_:q < n) (h:q < l.length),wr.cell? ⟨w.heap.size,q,none⟩=some (.int .i64 l[q])
theorem partI_step {w wr:World} {l:List Int} {n:Nat} {x:Int} (hp:PartI w wr l n) (hlt:n < l.length) (hd:l[n]=x):PartI w (wr.setCell ⟨w.heap.size,n,none⟩ (.int .i64 x)) l (n+1):=by
 obtain ⟨f,hf⟩:=hp.own
 have hr:=hf.set n (.int .i64 x)
 refine ⟨hp.bel.setCell (Nat.le_refl _) _,⟨_,hr⟩,fun q hq hql=>?_⟩
 by_cases e:q=n
 ·subst e
  rw [hd,hr.cell hql];simp
 ·rw [World.cell?_setCell_other _ _ _ _ (fun e'=>e (by have:=congrArg Addr.off e';simp at this;omega))]
  exact hp.done q (by omega) hql
set_option maxHeartbeats 400000 in
theorem toIntS_any (a:Option Addr) (b o c:Nat) (l:List Int) (w:World) (hl:l.length≤1048576) (h:IntS w a b o l) :
  Calls Tryz.prog 68 #[.slice a l.length c] w fun e w'=>e=.returned (.slice (some ⟨w.heap.size,0,none⟩) l.length l.length)∧IntS w' (some ⟨w.heap.size,0,none⟩) w.heap.size 0 l∧(∃ f,w'.rowIs w.heap.size 3 l.length f)∧Below w.heap.size w w':=by
 have hmk:=run_make_row' (P:=Tryz.prog) 26 3 (.int .i64 0) 8 Tryz.underlying26 Tryz.info3 rfl .i64 .i64 l.length (by omega) (by omega)
 go_enter Tryz.func68,Tryz.ntmps68
 go_wp2_with fail
 clear hmk
 go_loopw [4] (fun s4 wr=>∃ n:Nat,s4=.int .i64 n∧n≤l.length∧PartI w wr l n) (fun s4 _=>l.length - (intOf s4).toNat)
 case atStart=>exact ⟨0,rfl,Nat.zero_le _,⟨below1 _ _,⟨_,World.rowIs_made w (.int .i64 0) l.length 3⟩,fun _ hq _=>absurd hq (Nat.not_lt_zero _)⟩⟩
 case round =>
  obtain ⟨n,rfl,hn,hpart⟩:=hrel
  by_cases hlt:n < l.length
  ·obtain ⟨rfl⟩:=h.addr (by omega)
   have hc:=(h.below hpart.bel (Nat.le_refl _)).row n hlt
   generalize hln:l[n]=x at hc
   have HL:Hid (l[n]=x):=hln
   clear hln
   obtain ⟨f,hf⟩:=hpart.own
   have c0:=hf.cell hlt
   have f0:=hf.frozen
   go_wp2_with fail
   exact ⟨⟨n+1,by go_num,by omega,partI_step hpart hlt HL.out⟩,by simp [intOf];omega⟩
  ·go_wp2_with fail
   go_ret
   exact ⟨rfl,⟨fun _=>rfl,fun i hi=>by rw [Nat.zero_add];exact hpart.done i (by omega) hi⟩,hpart.own,hpart.bel⟩
theorem IntS.other {w:World} {a:Option Addr} {b o B i:Nat} {l:List Int} {u:Value} (h:IntS w a b o l) (hb:b≠B):IntS (w.setCell ⟨B,i,none⟩ u) a b o l :=
 ⟨h.addr,fun j hj=>by rw [World.cell?_setCell_other _ _ _ _ (fun e=>hb (congrArg Addr.block e).symm)];exact h.row j hj⟩
set_option maxHeartbeats 400000 in
theorem eqIntS_same (a:Option Addr) (b o c:Nat) (a2:Option Addr) (b2 o2 c2:Nat) (l:List Int) (w:World) (hl:l.length≤1048576) (h:IntS w a b o l) (h2:IntS w a2 b2 o2 l) :
  Calls Tryz.prog 69 #[.slice a l.length c,.slice a2 l.length c2] w fun e w'=>e=.returned (.bool true)∧Grown w w':=by
 go_enter Tryz.func69,Tryz.ntmps69
 go_wp2_with fail
 go_loopw [5] (fun s5 wr=>∃ n:Nat,s5=.int .i64 n∧n≤l.length∧Grown w wr) (fun s5 _=>l.length - (intOf s5).toNat)
 case atStart=>exact ⟨0,rfl,Nat.zero_le _,Grown.refl _⟩
 case round =>
  obtain ⟨n,rfl,hn,hg⟩:=hrel
  by_cases hlt:n < l.length
  ·obtain ⟨rfl⟩:=h.addr (by omega)
   obtain ⟨rfl⟩:=h2.addr (by omega)
   have hd:=(h.below hg.bel (Nat.le_refl _)).row n hlt
   have hd2:=(h2.below hg.bel (Nat.le_refl _)).row n hlt
   generalize l[n]=x at hd hd2
   have i1:(n:Int) < l.length:=by omega
   go_wp2_with fail
   go_quiet (fail)
   go_wp2_with fail
   exact ⟨⟨n+1,by go_num,by omega,hg.drewN _⟩,by simp [intOf];omega⟩
  ·go_wp2_with fail
   go_ret
   exact ⟨rfl,hg⟩
end
section
open Go.RowKit
structure DoSS (w:World) (a:Option Addr) (b o:Nat) (ll:List (List M.D)):Prop where
 addr:0 < ll.length→a=some ⟨b,o,none⟩
 row:∀ i (h:i < ll.length),∃ a' b' o' c',w.cell? ⟨b,o+i,none⟩=some (.slice a' ll[i].length c')∧DoS w a' b' o' ll[i]
theorem DoSS.below {w w':World} {a:Option Addr} {B b o:Nat} {ll:List (List M.D)} (h:DoSS w a b o ll) (hb:Below B w w') (hB:w.heap.size≤B):DoSS w' a b o ll:=by
 refine ⟨h.addr,fun i hi=>?_⟩
 obtain ⟨a',b',o',c',hc,hd⟩:=h.row i hi
 have hl:=World.block_lt_of_cell? _ _ hc
 exact ⟨a',b',o',c',by rw [hb.cell (p:=⟨b,o+i,none⟩) (by show b < B;exact Nat.lt_of_lt_of_le hl hB)];exact hc,hd.below hb hB⟩
theorem M.thread_le {t:List M.D} (h:M.thread t=true):t.length≤7:=by
 simp only [M.thread,Bool.and_eq_true,decide_eq_true_eq] at h;exact h.1.1.1
theorem M.drop_at' (l:List (List M.D)) (n:Nat) (h:n < l.length):l.drop n=l[n]::l.drop (n+1):=(List.getElem_cons_drop h).symm
theorem M.from_bad {l:List (List M.D)} {x u n:Nat} {t:List M.D} (hp:M.progFrom 0 0 l=M.progFrom x u (l.drop n)) (hd:l.drop n=t::l.drop (n+1)) (hb:M.thread t=false):M.prog l=false:=by
 simp [M.prog,hp,hd,M.progFrom,hb]
theorem M.from_ok {l:List (List M.D)} {x u n:Nat} {t:List M.D} (hp:M.progFrom 0 0 l=M.progFrom x u (l.drop n)) (hd:l.drop n=t::l.drop (n+1)) (hb:M.thread t=true):M.progFrom 0 0 l=M.progFrom (x+t.length) (u+M.cnt M.uses t) (l.drop (n+1)):=by
 rw [hp,hd];simp [M.progFrom,hb]
theorem M.from_fin {l:List (List M.D)} {x u n:Nat} (hp:M.progFrom 0 0 l=M.progFrom x u (l.drop n)) (hn:l.length≤n) (h3:l.length≤3):M.prog l=(decide (x≤14)&&decide (u≤6)):=by
 rw [List.drop_eq_nil_of_le hn] at hp
 simp [M.prog,hp,M.progFrom,h3]
set_option maxHeartbeats 400000 in
theorem iprog_any (a : Option Addr) (b o c : Nat) (ll : List (List M.D)) (w : World) (hl : ll.length ≤ 1048576) (hls : ∀ t ∈ ll, t.length ≤ 1048576) (h : DoSS w a b o ll) :
    Calls Tryz.prog 54 #[.agg #[.slice a ll.length c]] w fun e w' => e = .returned (.bool (M.prog ll)) ∧ Below w.heap.size w w' := by
  by_cases h3 : ll.length ≤ 3
  · have h3' : ¬ (3 : Int) < ll.length := by omega
    go_enter Tryz.func54, Tryz.ntmps54
    go_wp2_with fail
    go_loopw [3, 4, 14] (fun s3 s4 s14 wr => ∃ x u n : Nat, s3 = .int .i64 x ∧ s4 = .int .i64 u ∧ s14 = .int .i64 n ∧ n ≤ ll.length ∧ x ≤ 7 * n ∧ u ≤ 7 * n ∧ M.progFrom 0 0 ll = M.progFrom x u (ll.drop n) ∧ Below w.heap.size w wr) (fun _ _ s14 _ => ll.length - (intOf s14).toNat)
    case atStart => exact ⟨0, 0, 0, rfl, rfl, rfl, Nat.zero_le _, Nat.le_refl _, Nat.le_refl _, rfl, below1 _ _⟩
    case round =>
      obtain ⟨x, u, n, rfl, rfl, rfl, hn, hx, hu, hpass, hbel⟩ := hrel
      have HP : Hid (M.progFrom 0 0 ll = M.progFrom x u (ll.drop n)) := hpass
      clear hpass
      by_cases hlt : n < ll.length
      · obtain ⟨rfl⟩ := h.addr (by omega)
        obtain ⟨a', b', o', c', hc, hd⟩ := (h.below hbel (Nat.le_refl _)).row n hlt
        have HD : Hid (ll.drop n = ll[n] :: ll.drop (n + 1)) := M.drop_at' ll n hlt
        have hlt' := hls _ (List.getElem_mem hlt)
        generalize ll[n] = t at hd hc HD hlt'
        cases ht : M.thread t
        · go_wp2_with (go_at_call 111; refine (ithread_any a' b' o' c' t _ hlt' hd).mono ?_; rintro e w1 ⟨rfl, hb1⟩)
          go_ret
          exact ⟨ret_bool (M.from_bad HP.out HD.out ht).symm, hbel.trans (hb1.mono hbel.size)⟩
        · have ht7 := M.thread_le ht
          have hcn := M.cnt_le M.uses t
          go_wp2_with (first | (go_at_call 111; refine (ithread_any a' b' o' c' t _ hlt' hd).mono ?_; rintro e w1 ⟨rfl, hb1⟩) | (go_at_call 112; refine (cntUses_any a' b' o' c' t _ hlt' (hd.below hb1 (Nat.le_refl _))).mono ?_; rintro e w2 ⟨rfl, hb2⟩))
          exact ⟨⟨x + t.length, u + M.cnt M.uses t, n + 1, by go_num, by go_num, by go_num, by omega, by omega, by omega, M.from_ok HP.out HD.out ht, (hbel.trans (hb1.mono hbel.size)).trans (hb2.mono (Nat.le_trans hbel.size hb1.size))⟩, by simp [intOf]; omega⟩
      · by_cases hx14 : (x : Int) ≤ 14
        · go_wp2_with fail
          go_ret
          exact ⟨ret_bool (by rw [M.from_fin HP.out (by omega) h3]; have : x ≤ 14 := by omega
                              simp [this]; omega), hbel⟩
        · have hx14' : decide ((x : Int) ≤ 14) = false := by simpa using hx14
          go_wp2_with fail
          go_ret
          exact ⟨ret_bool (by rw [M.from_fin HP.out (by omega) h3]; have : ¬ x ≤ 14 := by omega
                              simp [this]), hbel⟩
  · have h3' : (3 : Int) < ll.length := by omega
    go_enter Tryz.func54, Tryz.ntmps54
    go_wp2_with fail
    go_ret
    exact ⟨ret_bool (by simp [M.prog, h3]), below1 _ _⟩
end
end Go.Proofs.YtegommoflmmahaaGreat
