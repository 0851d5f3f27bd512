/- spec's machine: a value is stored. Of a machine of three threads and three places. -/
import Derived.Test.YtnddmlgnngdaoaaRows
import Derived.Test.YtnddmlgnngdaoaaQjag
namespace Go.Proofs.Ytnddmlgnngdaoaa
section
open Go.RowKit
set_option maxHeartbeats 1000000 in
theorem swrite_full (base X i:Nat) (a:Option Addr) (n c:Nat) (vs:Rid→Value) (s:M.St) (p v:Int) (late:Bool) (w:World) (h:SM w base X a n c vs s) (hi:i < n) (hn:n≤3) (hp0:0≤p) (hp3:p < 3) (hpr:∀ q∈(s.t i).pend,0≤q.1∧q.1 < 3) (hl:(s.t i).pend.length≤6) (ha:s.at_.length=3) (hs:s.th.length=3) :
  Calls Try.prog 52 #[.pointer (some ⟨X,0,none⟩),.int .i64 i,.int .i64 p,.int .i64 v,.bool late] w fun e w'=>e=.returned (.tuple #[])∧SME w' base X a n c (s.write late i p v)∧Below base w w'∧(∀ k,k < w.heap.size→some k≠(vs (.sub 2 i)).ownBlock→some k≠(vs (.top 2)).ownBlock→some k≠(vs (.top 6)).ownBlock→w'.heap[k]?=w.heap[k]?):=by
 have i1:(i:Int) < n:=by omega
 have hbX:=h.bX
 obtain ⟨g2,c2,hv2,hb2,hf2⟩:=h.top (k:=2) (by omega) (by omega)
 have k2:=h.ck (k:=2) (by omega)
 rw [hv2] at k2
 have kr:=h.subAt (Or.inl rfl) hv2 hi
 have lG:g2 < w.heap.size:=World.block_lt_of_cell? _ _ kr
 have hown:=h.late hi
 obtain ⟨la,lc,hvl,hlc⟩:=own_sl hown
 rw [hvl] at kr hown
 have lX:X < w.heap.size:=h.lt
 have hbd:Below w.heap.size w w.drew:=(Below.refl _ _).drew
 have hbe:=below1 w.drew (.cells #[.int .i64 0,.int .i64 p,.int .i64 v] 84)
 obtain ⟨i0,hI,hz0,hz1,hz2⟩:=info_parts Try.smDo
 have hge:=own_ge hown
 have hlt:=fun k hk=>(hown.lt k hk).2
 have hne2:some g2≠(Value.slice la (s.t i).pend.length lc).ownBlock:=fun e=>by
  have:=h.apart (r:=.sub 2 i) (r':=.top 2) ⟨by omega,hi⟩ ⟨by omega,by omega⟩ (by simp)
  rw [hvl,hv2] at this
  exact this g2 e.symm rfl
 have hneX:some X≠(Value.slice la (s.t i).pend.length lc).ownBlock:=fun e=>by
  have:=SMN.offX h (r:=.sub 2 i) ⟨by omega,hi⟩
  rw [hvl] at this
  exact this e.symm
 have HW:Hid (s.write late i p v=if late then s.later i p v else (s.later i p v).come i):=by show _=_;rfl
 go_enter Try.func52,Try.ntmps52
 go_wp2_with fail
 go_region_law (refine step_app rfl (.tmp 21) (.tmp 25) 60 rfl (some 26) rfl base 84 i0 _ 3 24 Try.underlying60 hI hz0 hz1 hz2 rfl (by omega) (.slice la (s.t i).pend.length lc) (s.t i).pend.length (flatQ (s.t i).pend) (by rfl) (ownsRow_below hown (hbd.trans hbe)) ⟨w.heap.size,0,none⟩ 1 1 [.int .i64 0,.int .i64 p,.int .i64 v] (by rfl) rfl (World.news_of_block (cs:=#[.int .i64 0,.int .i64 p,.int .i64 v]) (t:=84) (fr:=(0,0)) (heap_alloc_new w.drew _)) (by simp [Value.oneCell']) (by unfold maxLen;omega) (by omega) (by simp;omega) ?_;intro v3 w3 hown3 hg3 hat3;obtain ⟨a3,c3,rfl,hc3⟩:=own_sl hown3;have hg:w.grownBy w3 (Value.slice la (s.t i).pend.length lc).ownBlock:=⟨hg3.os.trans (hbd.trans hbe).os,hg3.tape.trans (hbd.trans hbe).tape,hg3.output.trans (hbd.trans hbe).output,Nat.le_trans (hbd.trans hbe).size hg3.size,fun k hk hne=>(hg3.block k (Nat.lt_of_lt_of_le hk (hbd.trans hbe).size) hne).trans ((hbd.trans hbe).block k hk)⟩;have k3:=hg.cell k2 hneX;have kr3:=hg.cell kr hne2;have kf3:w3.frozen? ⟨g2,i,none⟩=false:=(World.frozen?_of_block (hg.block g2 lG hne2)).trans (hf2 i))
 all_goals
  have hS:=h.sub (k:=2) (i:=i) (s':=s.later i p v) (v':=.slice a3 ((s.t i).pend.length+1) c3) (Or.inl rfl) hi (by rw [hvl];exact hg) hv2 (by
   show w3.ownsRow base 84 3 _ (M.St.t (s.later i p v) i).pend.length (flatQ (M.St.t (s.later i p v) i).pend)
   unfold M.St.later
   rw [M.t_put _ _ _ _ (by omega),if_pos rfl]
   show w3.ownsRow base 84 3 _ ((s.t i).pend++[(p,v)]).length (flatQ ((s.t i).pend++[(p,v)]))
   rw [flatQ_app,List.length_append]
   exact hown3) (by
    rcases hat3 with e | e
    ·exact Or.inl (by rw [hvl];exact e)
    ·exact Or.inr (fun k hk=>by rw [e] at hk;simp at hk;omega)) (fun rr _ hne=>rw_put s i _ (by omega) rr (fun _=>rfl) (fun _=>rfl) (fun e=>absurd e hne) (fun _=>rfl) (fun _=>rfl))
  have hbS:Below base w (w3.setCell ⟨g2,i,none⟩ (.slice a3 ((s.t i).pend.length+1) c3)):=(below_grown (Below.refl _ _) hg hge (by omega)).setCell (by show base≤g2;exact hb2) _
  have hfr:∀ k,k < w.heap.size→some k≠(vs (.sub 2 i)).ownBlock→some k≠(vs (.top 2)).ownBlock→(w3.setCell ⟨g2,i,none⟩ (.slice a3 ((s.t i).pend.length+1) c3)).heap[k]?=w.heap[k]?:=fun k hk h1 h2=>by
   rw [Below.heap_setCell _ _ _ _ (fun e=>h2 (by rw [hv2,e];rfl)),hg.block k hk (by rw [hvl] at h1;exact h1)]
  have hsz:w.heap.size≤(w3.setCell ⟨g2,i,none⟩ (.slice a3 ((s.t i).pend.length+1) c3)).heap.size:=by simpa using hg.size
  clear k3 kr3 kf3 hg hg3 hown3 hat3
  generalize w3.setCell ⟨g2,i,none⟩ (.slice a3 ((s.t i).pend.length+1) c3)=W4 at *
  cases late
  ·obtain ⟨q,r,hqr,hq0,hq3,hrl⟩:=M.first_of (v:=v) hpr hp0 hp3
   have htl:((s.later i p v).t i).pend=q::r:=by unfold M.St.later;rw [M.t_put _ _ _ _ (by omega),if_pos rfl];exact hqr
   go_wp2_with fail
   refine (sland_full base X i a n c _ (s.later i p v) q r W4 hS hi hn htl hq0 hq3 ha (by unfold M.St.later;rw [M.put_len];exact hs) (by omega)).mono ?_
   rintro e w5 ⟨rfl,hm5,hb5,hf5⟩
   go_wp2_with fail
   exact bodyPost_end (v:=.tuple #[]) (results_none Try.results52 _ _ _) rfl ⟨rfl,by rw [HW.out];exact hm5,hbS.trans hb5,fun k hk h1 h2 h6=>(hf5 k (by omega) (by rw [setR_ne _ _ (by simp)];first | exact h2 | (rw [hv2];exact h2)) (by rw [setR_ne _ _ (by simp)];exact h6)).trans (hfr k hk (by first | exact h1 | (rw [hvl];exact h1)) (by first | exact h2 | (rw [hv2];exact h2)))⟩
  ·go_wp2_with fail
   exact bodyPost_end (v:=.tuple #[]) (results_none Try.results52 _ _ _) rfl ⟨rfl,by rw [HW.out];exact ⟨_,hS⟩,hbS,fun k hk h1 h2 _=>hfr k hk (by first | exact h1 | (rw [hvl];exact h1)) (by first | exact h2 | (rw [hv2];exact h2))⟩
theorem swrite_any (base X i:Nat) (a:Option Addr) (n c:Nat) (vs:Rid→Value) (s:M.St) (p v:Int) (late:Bool) (w:World) (h:SM w base X a n c vs s) (hi:i < n) (hn:n≤3) (hp0:0≤p) (hp3:p < 3) (hpr:∀ q∈(s.t i).pend,0≤q.1∧q.1 < 3) (hl:(s.t i).pend.length≤6) (ha:s.at_.length=3) (hs:s.th.length=3) :
  Calls Try.prog 52 #[.pointer (some ⟨X,0,none⟩),.int .i64 i,.int .i64 p,.int .i64 v,.bool late] w fun e w'=>e=.returned (.tuple #[])∧SME w' base X a n c (s.write late i p v)∧Below base w w' :=
 (swrite_full base X i a n c vs s p v late w h hi hn hp0 hp3 hpr hl ha hs).mono fun _ _ h=>⟨h.1,h.2.1,h.2.2.1⟩
end
end Go.Proofs.Ytnddmlgnngdaoaa
