/- The way in which one thread goes behind the other, each reading what was written last: it holds by each order. Plainly. Of a program. -/
import Derived.BigQuiet
import Derived.Deep.AppendLies
import Derived.Deep.MidRow
import Derived.Deep.Quiet
import Derived.Deep.QuietTactic
import Derived.Deep.RegionHeld3
import Derived.Laws.EntriesVeiled
import Derived.LoopN
import Derived.Shelf.Abstract
import Derived.Sort.Grow
import Derived.WalkKit
import Derived.WalkLawsBesides
import Derived.WalkSpells
import Derived.Test.YtihfibjckkmmbaaGreatRows
import Derived.Test.YtihfibjckkmmbaaGreatQhas
import Derived.Test.YtihfibjckkmmbaaGreatQhav
namespace Go.Proofs.YtihfibjckkmmbaaGreat
namespace M
def lastW (ds:List De) (p:Int):Nat→Int
 | 0=>-1
 | n+1=>if ((ds[n]?).map fun y=>y.to p).getD false then (n:Int) else lastW ds p n
theorem lastW_lt (ds:List De) (p:Int):∀ n:Nat,-1≤lastW ds p n∧lastW ds p n < n
 | 0=>by simp [lastW]
 | n+1=>by
  have:=lastW_lt ds p n
  unfold lastW
  split<;>omega
theorem lastW_to {ds:List De} {p:Int}:∀ {n:Nat},0≤lastW ds p n→lastW ds p n∈wrs p 0 ds
 | 0,h=>by simp [lastW] at h
 | n+1,h=>by
  unfold lastW at h ⊢
  split
  ·rename_i hy
   rcases Nat.lt_or_ge n ds.length with hn | hn
   ·rw [List.getElem?_eq_getElem hn] at hy
    exact mem_wrs.2 ⟨n,hn,by simp,by simpa using hy⟩
   ·rw [List.getElem?_eq_none hn] at hy;simp at hy
  ·rename_i hy
   rw [if_neg hy] at h
   exact lastW_to h
theorem lastW_max {ds:List De} {p:Int} {m:Nat} (hm:m < ds.length) (ht:(ds[m]).to p=true):∀ {n:Nat},m < n→(m:Int)≤lastW ds p n
 | 0,h=>by omega
 | n+1,h=>by
  unfold lastW
  split
  ·omega
  ·rename_i hy
   by_cases e:m=n
   ·subst e
    rw [List.getElem?_eq_getElem hm] at hy
    exact absurd (by simpa using ht) hy
   ·exact lastW_max hm ht (by omega)
def seqF (ds:List De):List Int:=(List.range ds.length).map fun n=>if ((ds[n]?).map fun x=>x.reads).getD false then lastW ds (((ds[n]?).map fun x=>x.d.p).getD 0) n else -2
theorem seqF_len (ds:List De):(seqF ds).length=ds.length:=by simp [seqF]
theorem seqF_at {ds:List De} {n:Nat} (h:n < ds.length):(seqF ds).getD n 0=if ds[n].reads then lastW ds ds[n].d.p n else -2:=by
 simp [seqF,List.getD_eq_getElem?_getD,h]
def seqO (ds:List De):List (List Int):=[wrs 0 0 ds,wrs 1 0 ds,wrs 2 0 ds]
theorem orig_down {ds:List De} {l:List Int} (h:∀ a:Nat,valFrom ds l a < a):∀ (n a:Nat),a < n→(orig ds l n a).isSome=true
 | 0,a,ha=>by omega
 | n+1,a,ha=>by
  unfold orig
  split
  ·rfl
  ·have:=h a
   exact orig_down h n _ (by omega)
theorem val_down {ll:List (List D)} {l:List Int} (hl:∀ n (h:n < (deeds ll).length),(deeds ll)[n].reads=true→l.getD n 0 < n) (a:Nat):valFrom (deeds ll) l a < a:=by
 unfold valFrom
 rcases Nat.lt_or_ge a (deeds ll).length with ha | ha
 ·rw [List.getElem?_eq_getElem ha]
  dsimp only
  cases hr:(deeds ll)[a].reads
  ·simp only [Bool.false_eq_true,if_false]
   split
   ·have h1:=(lr_all ll a _ (List.getElem?_eq_getElem ha)).2 hr
    rcases Int.lt_or_le (deeds ll)[a].lr 0 with h0 | h0
    ·omega
    ·obtain ⟨y,hy,_⟩:=h1 h0
     have:(deeds ll)[a].lr.toNat < ((deeds ll).take a).length:=by
      rw [List.getElem?_eq_some_iff] at hy;exact hy.1
     rw [List.length_take] at this
     omega
   ·omega
  ·simp only [if_true]
   exact hl a ha hr
 ·rw [List.getElem?_eq_none ha]
  dsimp only
  omega
theorem seq_ok {ll:List (List D)} (hp:prog ll=true):execOk ll (seqF (deeds ll)) (seqO (deeds ll))=true:=by
 rw [execOk,hp,Bool.true_and,wayOk]
 have he:ends (deeds ll) (seqF (deeds ll))=true:=by
  rw [ends_iff]
  intro i hi
  refine orig_down (val_down fun n h hr=>?_) _ _ hi
  rw [seqF_at h,if_pos hr]
  exact (lastW_lt _ _ _).2
 have ho:orderOk (deeds ll) (seqO (deeds ll))=true:=by
  simp only [orderOk,seqO,orderAt,Bool.and_eq_true,and_true]
  exact ⟨rfl,isRow_self _,isRow_self _,isRow_self _⟩
 have hf:fromOk (deeds ll) (seqF (deeds ll))=true:=by
  rw [fromOk,Bool.and_eq_true,decide_eq_true_eq]
  refine ⟨seqF_len _,(fromAt_iff _ _ (seqF_len _)).2 fun i hi=>?_⟩
  rw [mayTell_iff,seqF_at hi]
  cases hr:(deeds ll)[i].reads
  ·simp
  ·simp only [if_true]
   have h1:=lastW_lt (deeds ll) (deeds ll)[i].d.p i
   rcases Int.lt_or_le (lastW (deeds ll) (deeds ll)[i].d.p i) 0 with h0 | h0
   ·exact Or.inl (by omega)
   ·exact Or.inr (lastW_to h0)
 rw [hf,ho,he];rfl
theorem wrs_asc (p:Int):∀ (l:List De) (n:Nat),(wrs p n l).Pairwise (· < ·)
 | [],n=>by simp [wrs]
 | x::l,n=>by
  unfold wrs
  split
  ·refine List.pairwise_cons.2 ⟨fun v hv=>?_,wrs_asc p l (n+1)⟩
   obtain ⟨i,_,e,_⟩:=mem_wrs.1 hv
   omega
  ·exact wrs_asc p l (n+1)
theorem idx_get {row:List Int} (h:row.Nodup) {i:Nat} (hi:i < row.length):idx row row[i]=i :=
 idx_hit hi rfl fun j hj hjl e=>by
  have:=(List.pairwise_iff_getElem.1 h) j i hjl hi hj
  exact this e
theorem asc_nodup {row:List Int} (h:row.Pairwise (· < ·)):row.Nodup:=h.imp fun {a b} hlt e=>by omega
theorem idx_up {row:List Int} (h:row.Pairwise (· < ·)) {u v:Int} (hu:u∈row) (hv:v∈row) (hlt:idx row u < idx row v):u < v:=by
 obtain ⟨i,hi,rfl⟩:=List.getElem_of_mem hu
 obtain ⟨j,hj,rfl⟩:=List.getElem_of_mem hv
 rw [idx_get (asc_nodup h) hi,idx_get (asc_nodup h) hj] at hlt
 exact (List.pairwise_iff_getElem.1 h) i j hi hj (by omega)
theorem seqO_at {ds:List De} {p:Int} (h:0≤p∧p < 3):(seqO ds).getD p.toNat []=wrs p 0 ds:=by
 rcases (show p=0∨p=1∨p=2 by omega) with rfl | rfl | rfl<;>rfl
theorem uses_rw {x:De} (h:x.uses=true):x.reads=true∨(x.reads=false∧M.writes x.d.k=true):=by
 cases hr:x.reads
 ·right
  refine ⟨rfl,?_⟩
  have:(M.reads x.d.k||M.writes x.d.k)=true:=h
  rw [show M.reads x.d.k=false from hr,Bool.false_or] at this
  exact this
 ·exact Or.inl rfl
theorem seq_read {ds:List De} {a b:Nat} (hb:b < ds.length) (h:read (seqF ds) a b=true):a < b:=by
 simp only [read,beq_iff_eq] at h
 rw [seqF_at hb] at h
 split at h
 ·have:=(lastW_lt ds ds[b].d.p b).2;omega
 ·omega
theorem seq_over {ds:List De} (hpl:∀ x∈ds,x.uses=true→0≤x.d.p∧x.d.p < 3) {a b:Nat} (ha:a < ds.length) (hb:b < ds.length) (h:over (seqF ds) (seqO ds) a b ds[a] ds[b]=true):a < b:=by
 simp only [over,Bool.and_eq_true,decide_eq_true_eq,onePl,beq_iff_eq] at h
 obtain ⟨⟨hu,hu2,hpp⟩,hw,hlt⟩:=h
 have hp:=hpl _ (List.getElem_mem hb) hu2
 rw [seqO_at hp] at hlt
 have hbm:(b:Int)∈wrs ds[b].d.p 0 ds:=mem_wrs.2 ⟨b,hb,by simp,by simp [De.to,hw]⟩
 rcases uses_rw hu with hr | ⟨hr,hwa⟩
 ·rw [wrote,if_pos (show M.reads ds[a].d.k=true from hr),seqF_at ha,if_pos hr,hpp] at hlt
  apply Classical.byContradiction
  intro hn
  have hne:a≠b:=fun e=>by subst e;have h9:M.reads ds[a].d.k=true:=hr;rw [wr_rd hw] at h9;cases h9
  have h1:=lastW_max hb (p:=ds[b].d.p) (by simp [De.to,hw]) (show b < a by omega)
  have h2:=lastW_to (ds:=ds) (p:=ds[b].d.p) (n:=a) (by omega)
  rcases Int.lt_or_le (b:Int) (lastW ds ds[b].d.p a) with h3 | h3
  ·obtain ⟨i,hi,e1⟩:=List.getElem_of_mem hbm
   obtain ⟨j,hj,e2⟩:=List.getElem_of_mem h2
   rw [← e1,← e2,idx_get (nodup_wrs _ _ _) hi,idx_get (nodup_wrs _ _ _) hj] at hlt
   have:=(List.pairwise_iff_getElem.1 (wrs_asc ds[b].d.p ds 0)) j i hj hi (by omega)
   omega
  ·have e:lastW ds ds[b].d.p a=b:=by omega
   rw [e] at hlt
   omega
 ·rw [wrote,if_neg (by rw [show M.reads ds[a].d.k=false from hr];simp)] at hlt
  have ham:(a:Int)∈wrs ds[b].d.p 0 ds:=mem_wrs.2 ⟨a,ha,by simp,by simp [De.to,hwa,hpp]⟩
  have:=idx_up (wrs_asc _ _ _) ham hbm hlt
  omega
theorem seq_must {ds:List De} (hpl:∀ x∈ds,x.uses=true→0≤x.d.p∧x.d.p < 3) (k:Nat) {a b:Nat} (ha:a < ds.length) (hb:b < ds.length) (h:must ds (seqF ds) (seqO ds) k a b ds[a] ds[b]=true):a < b:=by
 have own_lt:own a b ds[a] ds[b]=true→a < b:=fun h=>by
  simp only [own,Bool.and_eq_true,decide_eq_true_eq] at h;exact h.1
 unfold must at h
 split at h<;>simp only [Bool.or_eq_true,Bool.and_eq_true,late,loose] at h
 ·rcases h with h | h | h
  ·exact own_lt h.1
  ·exact seq_read hb h
  ·exact seq_over hpl ha hb h
 ·rcases h with h | h | h
  ·exact own_lt h
  ·exact seq_read hb h
  ·exact seq_over hpl ha hb h
 ·rcases h with h | h | h
  ·exact own_lt h.1
  ·exact seq_read hb h.2
  ·exact seq_over hpl ha hb h
 ·rcases h with h | h | h
  ·exact own_lt h.1
  ·exact seq_read hb h.2
  ·exact seq_over hpl ha hb h.2
theorem leads_up {L:List Lk} (h:∀ l∈L,l.1 < l.2) {a b:Nat} (hl:Leads L a b):a < b:=by
 induction hl with
 | one h1=>exact h _ h1
 | more _ h2 ih=>have:=h _ h2;simp only at this;omega
theorem not_round_up {L:List Lk} (h:∀ l∈L,l.1 < l.2):¬ Round L:=fun ⟨a,ha⟩=>by have:=leads_up h ha;omega
theorem sat_up:∀ (cs:List Ch) (L:List Lk),(∀ l∈L,l.1 < l.2)→(∀ c∈cs,c.1.1 < c.1.2∨c.2.1 < c.2.2)→Sat L cs
 | [],L,h,_=>sat_nil.2 (not_round_up h)
 | c::cs,L,h,hc=>by
  rw [sat_cons]
  have add:∀ {x:Lk},x.1 < x.2→∀ l∈x::L,l.1 < l.2:=fun hx l hl=>by
   rcases List.mem_cons.1 hl with rfl | hl
   ·exact hx
   ·exact h l hl
  have rest:∀ c∈cs,c.1.1 < c.1.2∨c.2.1 < c.2.2:=fun c hx=>hc c (List.mem_cons_of_mem _ hx)
  rcases hc c (List.mem_cons_self ..) with h1 | h1
  ·exact Or.inl (sat_up cs _ (add h1) rest)
  ·exact Or.inr (sat_up cs _ (add h1) rest)
theorem deD_run (t i:Nat) (lr:Int) (n:Nat) (d:D) (l:List D) (b:Bool) (h:readers b (d::l)=true):∃ b',run b (deD t i lr n d)=some b'∧readers b' l=true∧(d.k=9→b=false∧b'=false):=by
 simp only [readers] at h
 by_cases h7:d.k=7
 ·have h9:(d.k==9)=false:=by simp;omega
  rw [if_pos (by simpa using h7)] at h
  cases b
  ·refine ⟨true,?_,by simpa using h,fun e=>by omega⟩
   rw [deD_one h9]
   simp [run,h7]
  ·simp at h
 ·rw [if_neg (by simpa using h7)] at h
  by_cases h8:d.k=8
  ·have h9:(d.k==9)=false:=by simp;omega
   rw [if_pos (by simpa using h8)] at h
   cases b
   ·simp at h
   ·refine ⟨false,?_,by simpa using h,fun e=>by omega⟩
    rw [deD_one h9]
    simp [run,h8]
  ·rw [if_neg (by simpa using h8)] at h
   have e:run b (deD t i lr n d)=some b:=by
    unfold deD
    split<;>simp [run,h7,h8]
   by_cases h9:d.k=9
   ·rw [if_pos (by simpa using h9)] at h
    cases b
    ·exact ⟨false,e,by simpa using h,fun _=>⟨rfl,rfl⟩⟩
    ·simp at h
   ·rw [if_neg (by simpa using h9)] at h
    exact ⟨b,e,h,fun e=>absurd e h9⟩
theorem deD_k (t i:Nat) (lr:Int) (n:Nat) (d:D):∀ x∈deD t i lr n d,x.d=d:=by
 intro x hx
 unfold deD at hx
 split at hx
 ·rcases List.mem_cons.1 hx with rfl | hx
  ·rfl
  ·rw [List.mem_singleton.1 hx]
 ·rw [List.mem_singleton.1 hx]
theorem wait_T (t:Nat):∀ (l:List D) (i:Nat) (lr:Int) (n:Nat) (b:Bool),readers b l=true→∀ w (h:w < (deT t i lr n l).length),(deT t i lr n l)[w].d.k=9→run b ((deT t i lr n l).take w)=some false
 | [],i,lr,n,b,_,w,h,_=>by simp [deT] at h
 | d::l,i,lr,n,b,hr,w,h,hk=>by
  obtain ⟨b',h1,h2,h3⟩:=deD_run t i lr n d l b hr
  simp only [deT] at h hk ⊢
  rcases Nat.lt_or_ge w (deD t i lr n d).length with hw | hw
  ·rw [List.getElem_append_left hw,deD_k t i lr n d _ (List.getElem_mem hw)] at hk
   obtain ⟨rfl,rfl⟩:=h3 hk
   rw [List.take_append_of_le_length (by omega)]
   have h9:(d.k==9)=true:=by simpa using hk
   rw [deD_wait h9] at hw ⊢
   rcases (show w=0∨w=1 by simp at hw;omega) with rfl | rfl
   ·rfl
   ·simp [run,hk]
  ·rw [List.getElem_append_right hw] at hk
   rw [List.take_append,List.take_of_length_le hw,run_append,h1]
   exact wait_T t l _ _ _ b' h2 _ (by rw [List.length_append] at h;omega) hk
theorem wait_F:∀ (ll:List (List D)) (t n:Nat),(∀ l∈ll,readers false l=true)→∀ w (h:w < (deF t n ll).length),(deF t n ll)[w].d.k=9→run false ((deF t n ll).take w)=some false
 | [],t,n,_,w,h,_=>by simp [deF] at h
 | l::ll,t,n,hr,w,h,hk=>by
  have hl:=hr l (List.mem_cons_self ..)
  simp only [deF] at h hk ⊢
  rcases Nat.lt_or_ge w (deT t 0 (-1) n l).length with hw | hw
  ·rw [List.getElem_append_left hw] at hk
   rw [List.take_append_of_le_length (by omega)]
   exact wait_T t l _ _ _ false hl w hw hk
  ·rw [List.getElem_append_right hw] at hk
   rw [List.take_append,List.take_of_length_le hw,run_append,run_T t l 0 (-1) n false hl]
   exact wait_F ll _ _ (fun x hx=>hr x (List.mem_cons_of_mem _ hx)) _ (by rw [List.length_append] at h;omega) hk
theorem wait_out {ll:List (List D)} (hp:prog ll=true) {r w:Nat} (hw:w < (deeds ll).length) (h9:(deeds ll)[w].d.k=9) (hrw:r < w) (h7:(deeds ll)[r].d.k=7):outOf (deeds ll) r < w:=by
 have hr:run false ((deeds ll).take w)=some false:=by
  refine wait_F ll 0 0 (fun l hl=>?_) w hw h9
  simp only [prog,Bool.and_eq_true] at hp
  have:=from_thr ll 0 0 hp.2 l hl
  simp only [thread,Bool.and_eq_true] at this
  exact this.2
 have hlen:((deeds ll).take w).length=w:=by rw [List.length_take];omega
 obtain ⟨m,h1,hm,h8⟩:=has_out hr (n:=r) (by omega) (by rw [List.getElem_take];exact h7)
 rw [List.getElem_take] at h8
 apply Classical.byContradiction
 intro hn
 exact (le_outOf (ds:=deeds ll) (a:=r) (b:=m+1) (by omega) (by omega)).1 (by omega) m (by omega) (by omega) (by omega) h8
theorem seq_holds {ll:List (List D)} (hp:prog ll=true) {k:Nat} (h1:1≤k) (h3:k≤3):orderHolds ll (seqF (deeds ll)) (seqO (deeds ll)) k=true:=by
 have up:∀ k,∀ l∈linksOf (netOf (deeds ll) (seqF (deeds ll)) (seqO (deeds ll)) k) (deeds ll).length,l.1 < l.2:=fun k l hl=>by
  obtain ⟨a,b⟩:=l
  obtain ⟨ha,hb,hA⟩:=mem_links.1 hl
  rw [netOf,mustAt,List.getElem?_eq_getElem ha,List.getElem?_eq_getElem hb] at hA
  exact seq_must (deed_u hp) k ha hb hA
 have e1:decide ((1:Int)≤(k:Int))=true:=by simpa using (by omega:(1:Int)≤k)
 have e2:decide ((k:Int)≤3)=true:=by simpa using (by omega:(k:Int)≤3)
 rw [orderHolds,e1,e2,seq_ok hp,Int.toNat_natCast]
 have hA:holdsA (netOf (deeds ll) (seqF (deeds ll)) (seqO (deeds ll)) 0) (deeds ll).length=true:=(kahn_ok _ _).2 (not_round_up (up 0))
 have hB:waitsA (deeds ll).length (netOf (deeds ll) (seqF (deeds ll)) (seqO (deeds ll)) k) (choices (deeds ll))=true:=by
  rw [waits_ok _ _ _ fun c hc=>(choices_ok (run_of hp) c hc).1]
  refine sat_up _ _ (up k) fun c hc=>?_
  simp only [choices,List.mem_flatMap,choicesAt,List.mem_map,List.mem_filter,List.mem_range] at hc
  obtain ⟨b,⟨hb,hw⟩,r,⟨hr,hk⟩,rfl⟩:=hc
  have hk7:(deeds ll)[r].d.k=7:=by rw [kAt_eq hr] at hk;simpa using hk
  have hw':(deeds ll)[b].d.k=9∧(deeds ll)[b].last=false:=by
   unfold waitsAt at hw
   rw [List.getElem?_eq_getElem hb] at hw
   simpa using hw
  rcases Nat.lt_or_ge r b with h | h
  ·have:=wait_out hp hb hw'.1 h hk7
   exact Or.inl (by simp only;omega)
  ·right
   simp only
   have:r≠b:=fun e=>by subst e;omega
   omega
 rw [hA,hB];rfl
end M
end Go.Proofs.YtihfibjckkmmbaaGreat
