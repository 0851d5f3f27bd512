/- spec's ProgOk. Of programs of at most 1048576 threads, each of at most 1048576 steps. And what goes with it: SProg, DoSN, NlO, StepGo. -/
import Derived.BigQuiet
import Derived.Deep.AppendLies
import Derived.Deep.MidRow
import Derived.Deep.QuietTactic
import Derived.Deep.RegionHeld3
import Derived.Deep.RegionLaw
import Derived.Deep.RegionWith
import Derived.Deep.WholeRow
import Derived.Laws.OwnMore
import Derived.Shelf.Abstract
import Derived.Sort.Grow
import Derived.WalkKit
import Derived.WalkLawsBesides
import Derived.WalkSpells
import Derived.Test.YtjjkicffhpcngaaGreatRows
import Derived.Test.YtjjkicffhpcngaaGreatBYah
namespace Go.Proofs.YtjjkicffhpcngaaGreat
open Go.RowKit
set_option maxHeartbeats 1000000 in
theorem sprog_any (a : Option Addr) (b o c : Nat) (ll : List (List M.D)) (w : World) (hl : ll.length ≤ 1048576) (hls : ∀ t ∈ ll, t.length ≤ 1048576) (h : DoSS w a b o ll) :
    Calls Tryz.prog 27 #[.agg #[.slice a ll.length c]] w fun e w' => e = .returned (.bool (M.prog ll)) ∧ Below w.heap.size w w' := by
  by_cases h3 : ll.length ≤ 3
  · have h3' : ¬ (3 : Int) < ll.length := by omega
    go_enter Tryz.func27, Tryz.ntmps27
    go_wp2_with fail
    go_loopw [3, 4, 5] (fun s3 s4 s5 wr => ∃ x u n : Nat, s3 = .int .i64 x ∧ s4 = .int .i64 u ∧ s5 = .int .i64 n ∧ n ≤ ll.length ∧ x ≤ 7 * n ∧ u ≤ 7 * n ∧ M.progFrom 0 0 ll = M.progFrom x u (ll.drop n) ∧ Below (w.heap.size + 1) (w.alloc (.cells #[.slice a ll.length c] 25)) wr) (fun _ _ s5 _ => ll.length - (intOf s5).toNat)
    case atStart => exact ⟨0, 0, 0, rfl, rfl, rfl, Nat.zero_le _, Nat.le_refl _, Nat.le_refl _, rfl, Below.refl _ _⟩
    case round =>
      obtain ⟨x, u, n, rfl, rfl, rfl, hn, hx, hu, hpass, hbel⟩ := hrel
      have HP : Hid (M.progFrom 0 0 ll = M.progFrom x u (ll.drop n)) := hpass
      clear hpass
      have hbox : wr.cell? ⟨w.heap.size, 0, none⟩ = some (.slice a ll.length c) := by rw [hbel.cell (p := ⟨w.heap.size, 0, none⟩) (by show w.heap.size < w.heap.size + 1; omega)]; simp
      have hsz := hbel.size
      simp only [World.size_alloc] at hsz
      by_cases hlt : n < ll.length
      · obtain ⟨rfl⟩ := h.addr (by omega)
        obtain ⟨a', b', o', c', hc, hd⟩ := ((h.below (below1 w _) (Nat.le_refl _)).below hbel (by simp)).row n hlt
        have HD : Hid (ll.drop n = ll[n] :: ll.drop (n + 1)) := M.drop_at' ll n hlt
        have hlt' := hls _ (List.getElem_mem hlt)
        generalize ll[n] = t at hd hc HD hlt'
        cases ht : M.thread t
        · go_wp2_with (go_at_call 55; refine (l1Thread_any a' b' o' c' t _ hlt' hd).mono ?_; rw [M.sthread_eq]; rintro e w1 ⟨rfl, hb1⟩)
          go_ret
          exact ⟨ret_bool (M.from_bad HP.out HD.out ht).symm, (below1 w _).trans ((hbel.mono (by omega)).trans (hb1.mono (by omega)))⟩
        · have ht7 := M.thread_le ht
          have hcn := M.cnt_le M.uses t
          have hbl : b < wr.heap.size := World.block_lt_of_cell? _ _ hc
          go_wp2_with (go_at_call 55; go_must (refine (l1Thread_any a' b' o' c' t _ hlt' hd).mono ?_; rw [M.sthread_eq]; rintro e w1 ⟨rfl, hb1⟩; have hbox1 : w1.cell? ⟨w.heap.size, 0, none⟩ = some (.slice (some ⟨b, o, none⟩) ll.length c) := (hb1.cell (p := ⟨w.heap.size, 0, none⟩) hsz).trans hbox; have hc1 : w1.cell? ⟨b, o + n, none⟩ = some (.slice a' t.length c') := (hb1.cell (p := ⟨b, o + n, none⟩) hbl).trans hc))
          have hd1 := hd.below hb1 (Nat.le_refl _)
          have hw1 : Below (w.heap.size + 1) (w.alloc (.cells #[.slice (some ⟨b, o, none⟩) ll.length c] 25)) w1 := hbel.trans (hb1.mono hsz)
          have hsz1 : w.heap.size + 1 ≤ w1.heap.size := Nat.le_trans hsz hb1.size
          have hbl1 : b < w1.heap.size := Nat.lt_of_lt_of_le hbl hb1.size
          clear hbox hc hd hbel hb1 hsz hbl
          go_loopw [4, 6] (fun s4 s6 wi => ∃ m k : Nat, s4 = .int .i64 (u + m) ∧ s6 = .int .i64 k ∧ k ≤ t.length ∧ m ≤ k ∧ M.cnt M.uses t = m + M.cnt M.uses (t.drop k) ∧ Below w1.heap.size w1 wi) (fun _ s6 _ => t.length - (intOf s6).toNat)
          case atStart => exact ⟨0, 0, by simp, rfl, Nat.zero_le _, Nat.le_refl _, by simp, Below.refl _ _⟩
          case round =>
            obtain ⟨m, k, rfl, rfl, hk, hmk, hpass, hbi⟩ := hrel
            have HP2 : Hid (M.cnt M.uses t = m + M.cnt M.uses (t.drop k)) := hpass
            clear hpass
            have hbox : wr.cell? ⟨w.heap.size, 0, none⟩ = some (.slice (some ⟨b, o, none⟩) ll.length c) := by rw [hbi.cell (p := ⟨w.heap.size, 0, none⟩) hsz1]; exact hbox1
            have hc : wr.cell? ⟨b, o + n, none⟩ = some (.slice a' t.length c') := by rw [hbi.cell (p := ⟨b, o + n, none⟩) hbl1]; exact hc1
            clear hbox1 hc1
            by_cases hkt : k < t.length
            · obtain ⟨rfl⟩ := hd1.addr (by omega)
              have hdk := (hd1.row k hkt).below hbi (Nat.le_refl _)
              have HK : Hid (t.drop k = t[k] :: t.drop (k + 1)) := M.drop_at t k hkt
              generalize t[k] = d at hdk HK
              obtain ⟨kk, p, v⟩ := d
              have hl2 : b' < wr.heap.size := hdk.lt
              have hl3 : w.heap.size < wr.heap.size := Nat.lt_of_lt_of_le hsz1 hbi.size
              have hl4 : b < wr.heap.size := Nat.lt_of_lt_of_le hbl1 hbi.size
              obtain ⟨ck, cp, cv⟩ := hdk
              cases hr : M.reads kk
              · cases hw : M.writes kk
                · go_wp2_with (first | (go_at_call 56; refine (l1Reads_any ⟨_, _, _⟩ _).mono ?_; rintro e w2 ⟨rfl, rfl⟩) | (go_at_call 57; refine (l1Writes_any ⟨_, _, _⟩ _).mono ?_; rintro e w2 ⟨rfl, rfl⟩))
                  exact ⟨⟨m, k + 1, rfl, by go_num, by omega, by omega, M.cnt_step HP2.out HK.out (by simp [M.uses, hr, hw]), (hbi.alloc hbi.size _).alloc (by have := hbi.size; simp; omega) _⟩, by simp [intOf]; omega⟩
                · go_wp2_with (first | (go_at_call 56; refine (l1Reads_any ⟨_, _, _⟩ _).mono ?_; rintro e w2 ⟨rfl, rfl⟩) | (go_at_call 57; refine (l1Writes_any ⟨_, _, _⟩ _).mono ?_; rintro e w2 ⟨rfl, rfl⟩))
                  exact ⟨⟨m + 1, k + 1, by go_num, by go_num, by omega, by omega, M.cnt_step HP2.out HK.out (by simp [M.uses, hr, hw]), (hbi.alloc hbi.size _).alloc (by have := hbi.size; simp; omega) _⟩, by simp [intOf]; omega⟩
              · go_wp2_with (first | (go_at_call 56; refine (l1Reads_any ⟨_, _, _⟩ _).mono ?_; rintro e w2 ⟨rfl, rfl⟩) | (go_at_call 57; refine (l1Writes_any ⟨_, _, _⟩ _).mono ?_; rintro e w2 ⟨rfl, rfl⟩))
                exact ⟨⟨m + 1, k + 1, by go_num, by go_num, by omega, by omega, M.cnt_step HP2.out HK.out (by simp [M.uses, hr]), hbi.alloc hbi.size _⟩, by simp [intOf]; omega⟩
            · go_wp2_with fail
              have hm := M.cnt_fin HP2.out (by omega)
              exact ⟨⟨x + t.length, u + m, n + 1, by go_num, by go_num, by go_num, by omega, by omega, by omega, by rw [hm]; exact M.from_ok HP.out HD.out ht, hw1.trans (hbi.mono hsz1)⟩, by simp [intOf]; omega⟩
      · by_cases hx14 : (x : Int) ≤ 14
        · go_wp2_with fail
          go_ret
          exact ⟨ret_bool (by rw [M.from_fin HP.out (by omega) h3]; have : x ≤ 14 := by omega
                              simp [this]; omega), (below1 w _).trans (hbel.mono (by omega))⟩
        · have hx14' : decide ((x : Int) ≤ 14) = false := by simpa using hx14
          go_wp2_with fail
          go_ret
          exact ⟨ret_bool (by rw [M.from_fin HP.out (by omega) h3]; have : ¬ x ≤ 14 := by omega
                              simp [this]), (below1 w _).trans (hbel.mono (by omega))⟩
  · have h3' : (3 : Int) < ll.length := by omega
    go_enter Tryz.func27, Tryz.ntmps27
    go_wp2_with fail
    go_ret
    exact ⟨ret_bool (by simp [M.prog, h3]), below1 _ _⟩
end Go.Proofs.YtjjkicffhpcngaaGreat
namespace Go.Proofs.YtjjkicffhpcngaaGreat
open Go.RowKit
theorem DoS.far {w:World} {a:Option Addr} {b o B i:Nat} {l:List M.D} {u:Value} (h:DoS w a b o l) (hb:0 < l.length→b≠B):DoS (w.setCell ⟨B,i,none⟩ u) a b o l:=by
 refine ⟨h.addr,fun j hj=>?_⟩
 have hne:=hb (by omega)
 have hr:=h.row j hj
 exact ⟨(World.cell?_setCell_other _ _ _ _ (fun e=>hne (congrArg Addr.block e).symm)).trans hr.k,(World.cell?_setCell_other _ _ _ _ (fun e=>hne (congrArg Addr.block e).symm)).trans hr.p,(World.cell?_setCell_other _ _ _ _ (fun e=>hne (congrArg Addr.block e).symm)).trans hr.v⟩
theorem own_capS {w:World} {base n cap:Nat} {a:Option Addr} {e:TypeId} {size:Nat} {xs:List Value} (h:w.ownsRow base e size (.slice a n cap) n xs):n≤cap:=by
 rcases h.2 with ⟨hv,_⟩ | ⟨g',cap',cur,hv,_,_,hc,_⟩
 ·simp at hv;omega
 ·simp at hv
  obtain ⟨_,rfl⟩:=hv
  exact hc
theorem own_stepsC {w:World} {base:Nat} {v:Value} {l:List M.D} (h:w.ownsRow base 43 3 v l.length (flat l)):∃ a g c,v=.slice a l.length c∧DoS w a g 0 l∧(0 < l.length→base≤g)∧l.length≤c:=by
 obtain ⟨a,g,c,rfl,hd,hg⟩:=own_steps h
 exact ⟨a,g,c,rfl,hd,hg,own_capS h⟩
structure DoSN (N:Nat) (w:World) (a:Option Addr) (b o:Nat) (ll:List (List M.D)):Prop where
 addr:0 < ll.length→a=some ⟨b,o,none⟩
 ge:0 < ll.length→N≤b
 row:∀ i (h:i < ll.length),∃ a' b' o' c',w.cell? ⟨b,o+i,none⟩=some (.slice a' ll[i].length c')∧DoS w a' b' o' ll[i]∧(0 < ll[i].length→N≤b')∧ll[i].length≤c'
theorem DoSN.ss {N:Nat} {w:World} {a:Option Addr} {b o:Nat} {ll:List (List M.D)} (h:DoSN N w a b o ll):DoSS w a b o ll :=
 ⟨h.addr,fun i hi=>by obtain ⟨a',b',o',c',hc,hd,_,_⟩:=h.row i hi;exact ⟨a',b',o',c',hc,hd⟩⟩
theorem DoSN.far {N:Nat} {w:World} {a:Option Addr} {b o B i:Nat} {ll:List (List M.D)} {u:Value} (h:DoSN N w a b o ll) (hB:B < N):DoSN N (w.setCell ⟨B,i,none⟩ u) a b o ll:=by
 refine ⟨h.addr,h.ge,fun j hj=>?_⟩
 obtain ⟨a',b',o',c',hc,hd,hg,hq⟩:=h.row j hj
 have:=h.ge (by omega)
 exact ⟨a',b',o',c',(World.cell?_setCell_other _ _ _ _ (fun e=>by have:=congrArg Addr.block e;simp at this;omega)).trans hc,hd.far (fun hl=>by have:=hg hl;omega),hg,hq⟩
theorem DoSN.mono {N N':Nat} {w:World} {a:Option Addr} {b o:Nat} {ll:List (List M.D)} (h:DoSN N w a b o ll) (hN:N'≤N):DoSN N' w a b o ll :=
 ⟨h.addr,fun hl=>Nat.le_trans hN (h.ge hl),fun i hi=>by obtain ⟨a',b',o',c',hc,hd,hg,hq⟩:=h.row i hi;exact ⟨a',b',o',c',hc,hd,fun hl=>Nat.le_trans hN (hg hl),hq⟩⟩
theorem own_capR {w:World} {base g n cap:Nat} {e:TypeId} {size:Nat} {xs:List Value} (h:w.ownsRow base e size (.slice (some ⟨g,0,none⟩) n cap) n xs):n≤cap:=by
 rcases h.2 with ⟨hv,_⟩ | ⟨g',cap',cur,hv,_,_,hc,_⟩
 ·simp at hv
 ·simp at hv
  obtain ⟨_,rfl⟩:=hv
  exact hc
theorem Build.cap {w:World} {B n c:Nat} {a:Option Addr} {ll:List (List M.D)} {vs:List Value} (h:Build w B (.slice a n c) ll vs):ll.length≤c:=by
 rcases h.outer.2 with ⟨hv,hn⟩ | ⟨g',cap',cur,hv,_,_,hc,_⟩
 ·omega
 ·simp at hv
  obtain ⟨_,_,rfl⟩:=hv
  exact hc
theorem Build.sn {w:World} {B:Nat} {v:Value} {ll:List (List M.D)} {vs:List Value} (h:Build w B v ll vs):∃ a g c,v=.slice a ll.length c∧DoSN B w a g 0 ll:=by
 have hl:=h.len
 rcases h.outer.2 with ⟨hv,hn⟩ | ⟨g,cap,cur,hv,hg,hh,r⟩
 ·have:ll=[]:=List.length_eq_zero_iff.1 hn
  subst this
  exact ⟨none,0,0,hv,⟨fun h=>absurd h (Nat.lt_irrefl _),fun h=>absurd h (Nat.lt_irrefl _),fun i hi=>absurd hi (Nat.not_lt_zero _)⟩⟩
 ·refine ⟨_,g,cap,hv,⟨fun _=>rfl,fun _=>hg,fun i hi=>?_⟩⟩
  have hc:=h.outer.cells (g:=g) (by rw [hv];rfl) i vs[i] (List.getElem?_eq_getElem (by omega))
  rw [Go.WideShapes.add_plain] at hc
  obtain ⟨a',g',c',e,hd,hge,hq⟩:=own_stepsC (h.inner i hi (by omega))
  rw [e] at hc
  exact ⟨a',g',0,c',hc,hd,hge,hq⟩
theorem set_sn {w:World} {B B' g n c:Nat} {v u:Value} {ll:List (List M.D)} {vs:List Value} {L:List M.D} {k:Nat} (hk:k < ll.length) (hB:Build w B' v ll vs) (ho:w.ownsRow B 41 1 (.slice (some ⟨g,0,none⟩) n c) n (vs.set k u)) (hu:w.ownsRow B 43 3 u L.length (flat L)) (hBB:B'≤B):DoSN B' w (some ⟨g,0,none⟩) g 0 (ll.set k L):=by
 have hl:=hB.len
 refine ⟨fun _=>rfl,fun _=>Nat.le_trans hBB (own_ge ho g rfl),fun i hi=>?_⟩
 have hi':i < ll.length:=by simpa using hi
 by_cases e:i=k
 ·subst e
  have hc:=ho.cells (g:=g) rfl i u (by rw [List.getElem?_set_self (by omega)])
  rw [Go.WideShapes.add_plain] at hc
  obtain ⟨a',g',c',e1,hd,hge,hq⟩:=own_stepsC hu
  rw [e1] at hc
  rw [List.getElem_set_self]
  exact ⟨a',g',0,c',hc,hd,fun h=>Nat.le_trans hBB (hge h),hq⟩
 ·have hc:=ho.cells (g:=g) rfl i vs[i] (by rw [List.getElem?_set_ne (fun h=>e h.symm)];exact List.getElem?_eq_getElem (by omega))
  rw [Go.WideShapes.add_plain] at hc
  obtain ⟨a',g',c',e1,hd,hge,hq⟩:=own_stepsC (hB.inner i hi' (by omega))
  rw [e1] at hc
  rw [List.getElem_set_ne (fun h=>e h.symm)]
  exact ⟨a',g',0,c',hc,hd,hge,hq⟩
end Go.Proofs.YtjjkicffhpcngaaGreat
namespace Go.Proofs.YtjjkicffhpcngaaGreat
open Go.RowKit
theorem nums_cells {w:World} {b o:Nat} {l:List Int} {sa:Option Addr} (h:IntS w sa b o l):∀ (j:Nat) (u:Value),(nums l)[j]?=some u→w.cell? ((⟨b,o,none⟩:Addr).add j)=some u:=by
 intro j u hj
 have hjl:j < l.length:=by
  have:=(List.getElem?_eq_some_iff.1 hj).1
  simpa [nums] using this
 rw [Go.WideShapes.add_plain,h.row j hjl]
 simpa [nums,hjl] using hj
theorem nums_one (l:List Int):∀ u∈nums l,u.oneCell'=true:=by intro u hu;simp [nums] at hu;obtain ⟨_,_,rfl⟩:=hu;rfl
set_option maxHeartbeats 1000000 in
set_option maxRecDepth 100000 in
theorem newListO_any (a:Option Addr) (b o c:Nat) (l:List Int) (w:World) (hl:l.length≤1048576) (h:IntS w a b o l) :
  Calls Tryz.prog 106 #[.slice a l.length c] w fun e w'=>∃ v,e=.returned v∧w'.ownsRow w.heap.size 3 1 v l.length (nums l)∧Below w.heap.size w w':=by
 obtain ⟨i0,hi,hz0,hz1,hz2⟩:=info_parts Tryz.infoInt
 rcases Nat.eq_zero_or_pos l.length with h0 | hpos
 ·have hl0:l=[]:=List.length_eq_zero_iff.1 h0
  subst hl0
  rw [List.length_nil]
  go_enter Tryz.func106,Tryz.ntmps106
  go_wp2_with (at_builtin;refine wpList_append_nilT rfl (.const (.slice none 0 0)) (.tmp 3) 47 rfl 3 i0 Tryz.underlying47 hi rfl a c rfl ?_)
  go_wp2_with fail
  go_ret
  exact ⟨_,rfl,World.ownsRow_nil _ _ _ _,Below.refl _ _⟩
 ·obtain ⟨rfl⟩:=h.addr hpos
  go_enter Tryz.func106,Tryz.ntmps106
  go_wp2_with (at_builtin;refine wpList_append_lies _ rfl (.const (.slice none 0 0)) (.tmp 3) 47 rfl w.heap.size 3 i0 _ 1 8 Tryz.underlying47 hi hz0 hz1 hz2 rfl (by decide) _ 0 [] rfl (World.ownsRow_nil _ _ _ _) ⟨b,o,none⟩ l.length c (nums l) rfl (by simp [nums]) (nums_cells h) (nums_one l) hpos (by unfold maxLen;omega) (by omega) (Nat.le_refl _) w.heap.size rfl ?_)
  intro g cap w1 hown hg hat hlt
  have hb:Below w.heap.size w w1:=⟨hg.os,hg.tape,hg.output,hg.size,fun k hk=>hg.block k hk (fun e=>by simp [Value.ownBlock] at e)⟩
  have hown':w1.ownsRow w.heap.size 3 1 (.slice (some ⟨g,0,none⟩) l.length cap) l.length (nums l):=by simpa using hown
  go_wp2_with fail
  go_ret
  exact ⟨_,by first | rfl | simp,hown',hb⟩
end Go.Proofs.YtjjkicffhpcngaaGreat
namespace Go.Proofs.YtjjkicffhpcngaaGreat
open Go.RowKit
theorem step_go {P:Program} {ops:Array Oper} {o:Oper} {a:Act} {w:World} {K:Act→World→Prop} {Q:Exit→Act→World→Prop} {E:Prop}
  (hg:o.guard=none) (f:FuncId) (os:Array Operand) (ts:Array TypeId) (hop:o.op=Op.call { callee:=Callee.value (Operand.func f),args:=os,argTypes:=ts })
  (vals:Array Value) (hv:os.map a.eval=vals) (he:∀ args w,(callFunc f args).run P w=.ok (.enter f args) w) {R:Ending→World→Prop} (hc:Calls P f vals w R)
  (hK:∀ e w',R e w'→∃ v,e=.returned v∧K (a.put o.dst v) w') :
  if Region.wanted o (yielded ops a.tmps)=true then Oper.wp P o a w K Q else E:=by
 have hw:Region.wanted o (yielded ops a.tmps)=true:=by simp [Region.wanted,hg]
 rw [if_pos hw]
 subst hv
 have hr:(execOp a.eval o).run P w=.ok (.enter f (os.map a.eval)) w:=by
  simp [execOp,hop,resolve,invoke,Act.eval,Deferred.ofValue,he]
 unfold Oper.wp
 rw [hr,Oper.upon_enter]
 refine hc.mono fun e w' h=>?_
 obtain ⟨v,rfl,hk⟩:=hK e w' h
 exact hk
theorem step_go2 {P:Program} {ops:Array Oper} {o:Oper} {a:Act} {w:World} {K:Act→World→Prop} {Q:Exit→Act→World→Prop} {E:Prop}
  (hg:o.guard=none) (f:FuncId) (x y:Operand) (ts:Array TypeId) (hop:o.op=Op.call { callee:=Callee.value (Operand.func f),args:=#[x,y],argTypes:=ts })
  (vx vy:Value) (hx:a.eval x=vx) (hy:a.eval y=vy) (he:∀ args w,(callFunc f args).run P w=.ok (.enter f args) w) {R:Ending→World→Prop} (hc:Calls P f #[vx,vy] w R)
  (hK:∀ e w',R e w'→∃ v,e=.returned v∧K (a.put o.dst v) w') :
  if Region.wanted o (yielded ops a.tmps)=true then Oper.wp P o a w K Q else E :=
 step_go hg f #[x,y] ts hop #[vx,vy] (by simp [hx,hy]) he hc hK
theorem step_go3 {P:Program} {ops:Array Oper} {o:Oper} {a:Act} {w:World} {K:Act→World→Prop} {Q:Exit→Act→World→Prop} {E:Prop}
  (hg:o.guard=none) (f:FuncId) (x y z:Operand) (ts:Array TypeId) (hop:o.op=Op.call { callee:=Callee.value (Operand.func f),args:=#[x,y,z],argTypes:=ts })
  (vx vy vz:Value) (hx:a.eval x=vx) (hy:a.eval y=vy) (hz:a.eval z=vz) (he:∀ args w,(callFunc f args).run P w=.ok (.enter f args) w) {R:Ending→World→Prop} (hc:Calls P f #[vx,vy,vz] w R)
  (hK:∀ e w',R e w'→∃ v,e=.returned v∧K (a.put o.dst v) w') :
  if Region.wanted o (yielded ops a.tmps)=true then Oper.wp P o a w K Q else E :=
 step_go hg f #[x,y,z] ts hop #[vx,vy,vz] (by simp [hx,hy,hz]) he hc hK
end Go.Proofs.YtjjkicffhpcngaaGreat
