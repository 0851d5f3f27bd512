/- A program with walls put in: its events among those of the program, carried over. Plainly. No condition but what is said. What an order allows of a program with walls put in: no more; strictly just as much. Plainly. No condition but what is said. -/
import Derived.Test.YtjjkicffhpcngaaGreatBWbj
namespace Go.Proofs.YtjjkicffhpcngaaGreat
namespace M
structure InsE (ds es:List De) (pos back:List Nat):Prop where
 len:pos.length=ds.length
 blen:back.length=es.length
 asc:pos.Pairwise (· < ·)
 lt:∀ n∈pos,n < es.length
 at_:∀ (a:Nat) (x:De),ds[a]?=some x→∃ (n:Nat) (y:De),pos[a]?=some n∧es[n]?=some y∧y.d=x.d∧y.t=x.t∧y.last=x.last∧y.lr=up (fun a=>pos.getD a 0) x.lr
 home:∀ (a n:Nat),pos[a]?=some n→back[n]?=some a
 out:∀ (c:Nat) (y:De),es[c]?=some y→c∉pos→y.d=wall∧∃ (a n:Nat) (x:De),back[c]?=some a∧pos[a]?=some n∧n < c∧ds[a]?=some x∧x.t=y.t∧∀ (b m:Nat),pos[b]?=some m→a < b→c < m
 adj:∀ (a:Nat) (x:De),ds[a]?=some x→x.d.k=9→x.last=false→∃ n:Nat,pos[a]?=some n∧pos[a+1]?=some (n+1)
 lro:∀ x∈ds,x.lr < ds.length
theorem InsE.nil:InsE [] [] [] []:=⟨rfl,rfl,List.Pairwise.nil,fun n hn=>(by cases hn),fun a x h=>(by simp at h),fun a n h=>(by simp at h),fun c y h=>(by simp at h),fun a x h=>(by simp at h),fun x h=>(by cases h)⟩
theorem get_snoc {α:Type} {l:List α} {x y:α} {a:Nat} (h:(l++[x])[a]?=some y):l[a]?=some y∨(a=l.length∧y=x):=by
 rcases Nat.lt_or_ge a l.length with h1 | h1
 ·rw [List.getElem?_append_left h1] at h;exact .inl h
 ·rw [List.getElem?_append_right h1] at h
  have:a - l.length=0:=by
   have:=lt_of_get h
   simp at this;omega
  rw [this] at h
  exact .inr ⟨by omega,by simpa using h.symm⟩
theorem get_left {α:Type} {l:List α} {x y:α} {a:Nat} (h:l[a]?=some y):(l++[x])[a]?=some y:=by
 rw [List.getElem?_append_left (lt_of_get h)];exact h
theorem get_last {α:Type} (l:List α) (x:α):(l++[x])[l.length]?=some x:=by simp
theorem up_snoc {pos:List Nat} {n:Nat} {z:Int} (h:z < pos.length):up (fun a=>(pos++[n]).getD a 0) z=up (fun a=>pos.getD a 0) z:=by
 rcases Int.lt_or_le z 0 with h0 | h0
 ·rw [up_neg h0,up_neg h0]
 ·obtain ⟨m,rfl⟩:∃ m:Nat,z=m:=⟨z.toNat,by omega⟩
  rw [up_nat,up_nat]
  simp only [List.getD_eq_getElem?_getD]
  rw [List.getElem?_append_left (by omega)]
theorem InsE.keep {ds es:List De} {pos back:List Nat} (h:InsE ds es pos back) {x y:De} (hd:y.d=x.d) (ht:y.t=x.t) (hl:y.last=x.last) (hlr:y.lr=up (fun a=>(pos++[es.length]).getD a 0) x.lr) (hlo:x.lr≤ds.length) (h9:x.d.k=9→x.last=true):InsE (ds++[x]) (es++[y]) (pos++[es.length]) (back++[ds.length]):=by
 have hlen:=h.len
 refine ⟨by simp [hlen],by simp [h.blen],?_,fun n hn=>?_,fun a z hz=>?_,fun a n hn=>?_,fun c z hz hc=>?_,fun a z hz hk hf=>?_,fun z hz=>?_⟩
 ·refine List.pairwise_append.2 ⟨h.asc,List.pairwise_singleton _ _,fun a ha b hb=>?_⟩
  rw [List.mem_singleton.1 hb]
  exact h.lt a ha
 ·rcases List.mem_append.1 hn with hn | hn
  ·have:=h.lt n hn;simp;omega
  ·rw [List.mem_singleton.1 hn];simp
 ·rcases get_snoc hz with hz | ⟨rfl,rfl⟩
  ·obtain ⟨n,u,h1,h2,h3,h4,h5,h6⟩:=h.at_ a z hz
   exact ⟨n,u,get_left h1,get_left h2,h3,h4,h5,h6.trans (up_snoc (by have:=h.lro z (mem_of_get hz);omega)).symm⟩
  ·exact ⟨es.length,y,by rw [← hlen];exact get_last _ _,get_last _ _,hd,ht,hl,hlr⟩
 ·rcases get_snoc hn with hn | ⟨rfl,rfl⟩
  ·exact get_left (h.home a n hn)
  ·rw [hlen,← h.blen];exact get_last _ _
 ·rcases get_snoc hz with hz | ⟨rfl,rfl⟩
  ·obtain ⟨h1,a,n,u,h2,h3,h4,h5,h6,h7⟩:=h.out c z hz fun hm=>hc (List.mem_append.2 (.inl hm))
   refine ⟨h1,a,n,u,get_left h2,get_left h3,h4,get_left h5,h6,fun b m hb hab=>?_⟩
   rcases get_snoc hb with hb | ⟨_,rfl⟩
   ·exact h7 b m hb hab
   ·exact lt_of_get hz
  ·exact absurd (List.mem_append.2 (.inr (List.mem_singleton.2 rfl))) hc
 ·rcases get_snoc hz with hz | ⟨rfl,rfl⟩
  ·obtain ⟨n,h1,h2⟩:=h.adj a z hz hk hf
   exact ⟨n,get_left h1,get_left h2⟩
  ·rw [h9 hk] at hf;cases hf
 ·rw [List.length_append]
  rcases List.mem_append.1 hz with hz | hz
  ·have:=h.lro z hz;simp;omega
  ·rw [List.mem_singleton.1 hz];simp;omega
theorem InsE.keep2 {ds es:List De} {pos back:List Nat} (h:InsE ds es pos back) {x y x' y':De} (hd:y.d=x.d) (ht:y.t=x.t) (hl:y.last=x.last) (hlr:y.lr=up (fun a=>pos.getD a 0) x.lr) (hlo:x.lr < ds.length) (hd':y'.d=x'.d) (ht':y'.t=x'.t) (hl':y'.last=x'.last) (hlr':y'.lr=up (fun a=>pos.getD a 0) x'.lr) (hlo':x'.lr < ds.length) (hf':x'.last=true):InsE ((ds++[x])++[x']) ((es++[y])++[y']) ((pos++[es.length])++[es.length+1]) ((back++[ds.length])++[ds.length+1]):=by
 have hlen:=h.len
 refine ⟨by simp [hlen],by simp [h.blen],?_,fun n hn=>?_,fun a z hz=>?_,fun a n hn=>?_,fun c z hz hc=>?_,fun a z hz hk hf=>?_,fun z hz=>?_⟩
 ·refine List.pairwise_append.2 ⟨List.pairwise_append.2 ⟨h.asc,List.pairwise_singleton _ _,fun a ha b hb=>?_⟩,List.pairwise_singleton _ _,fun a ha b hb=>?_⟩
  ·rw [List.mem_singleton.1 hb];exact h.lt a ha
  ·rw [List.mem_singleton.1 hb]
   rcases List.mem_append.1 ha with ha | ha
   ·have:=h.lt a ha;omega
   ·rw [List.mem_singleton.1 ha];omega
 ·rcases List.mem_append.1 hn with hn | hn
  ·rcases List.mem_append.1 hn with hn | hn
   ·have:=h.lt n hn;simp;omega
   ·rw [List.mem_singleton.1 hn];simp
  ·rw [List.mem_singleton.1 hn];simp
 ·rcases get_snoc hz with hz | ⟨rfl,rfl⟩
  ·rcases get_snoc hz with hz | ⟨rfl,rfl⟩
   ·obtain ⟨n,u,h1,h2,h3,h4,h5,h6⟩:=h.at_ a z hz
    have hz2:=h.lro z (mem_of_get hz)
    exact ⟨n,u,get_left (get_left h1),get_left (get_left h2),h3,h4,h5,by rw [up_snoc (by simp;omega),up_snoc (by omega)];exact h6⟩
   ·exact ⟨es.length,y,get_left (by rw [← hlen];exact get_last _ _),get_left (get_last _ _),hd,ht,hl,by rw [up_snoc (by simp;omega),up_snoc (by omega)];exact hlr⟩
  ·refine ⟨es.length+1,y',?_,?_,hd',ht',hl',by rw [up_snoc (by simp;omega),up_snoc (by omega)];exact hlr'⟩
   ·rw [show (ds++[x]).length=(pos++[es.length]).length by simp [hlen]];exact get_last _ _
   ·rw [show es.length+1=(es++[y]).length by simp];exact get_last _ _
 ·rcases get_snoc hn with hn | ⟨rfl,rfl⟩
  ·rcases get_snoc hn with hn | ⟨rfl,rfl⟩
   ·exact get_left (get_left (h.home a n hn))
   ·rw [hlen,← h.blen];exact get_left (get_last _ _)
  ·rw [show (pos++[es.length]).length=ds.length+1 by simp [hlen],show es.length+1=(back++[ds.length]).length by simp [h.blen]];exact get_last _ _
 ·rcases get_snoc hz with hz | ⟨rfl,rfl⟩
  ·rcases get_snoc hz with hz | ⟨rfl,rfl⟩
   ·obtain ⟨h1,a,n,u,h2,h3,h4,h5,h6,h7⟩:=h.out c z hz fun hm=>hc (List.mem_append.2 (.inl (List.mem_append.2 (.inl hm))))
    have hcl:=lt_of_get hz
    refine ⟨h1,a,n,u,get_left (get_left h2),get_left (get_left h3),h4,get_left (get_left h5),h6,fun b m hb hab=>?_⟩
    rcases get_snoc hb with hb | ⟨_,rfl⟩
    ·rcases get_snoc hb with hb | ⟨_,rfl⟩
     ·exact h7 b m hb hab
     ·exact hcl
    ·omega
   ·exact absurd (List.mem_append.2 (.inl (List.mem_append.2 (.inr (List.mem_singleton.2 rfl))))) hc
  ·exact absurd (List.mem_append.2 (.inr (List.mem_singleton.2 (by simp)))) hc
 ·rcases get_snoc hz with hz | ⟨rfl,rfl⟩
  ·rcases get_snoc hz with hz | ⟨rfl,rfl⟩
   ·obtain ⟨n,h1,h2⟩:=h.adj a z hz hk hf
    exact ⟨n,get_left (get_left h1),get_left (get_left h2)⟩
   ·refine ⟨es.length,get_left (by rw [← hlen];exact get_last _ _),?_⟩
    rw [show ds.length+1=(pos++[es.length]).length by simp [hlen]];exact get_last _ _
  ·rw [hf'] at hf;cases hf
 ·rw [List.length_append,List.length_append]
  rcases List.mem_append.1 hz with hz | hz
  ·rcases List.mem_append.1 hz with hz | hz
   ·have:=h.lro z hz;simp;omega
   ·rw [List.mem_singleton.1 hz];simp;omega
  ·rw [List.mem_singleton.1 hz];simp;omega
theorem InsE.add {ds es:List De} {pos back:List Nat} (h:InsE ds es pos back) {x y:De} (hd:y.d=wall) (hx:ds[ds.length - 1]?=some x) (ht:x.t=y.t):InsE ds (es++[y]) pos (back++[ds.length - 1]):=by
 refine ⟨h.len,by simp [h.blen],h.asc,fun n hn=>by have:=h.lt n hn;simp;omega,fun a z hz=>?_,fun a n hn=>get_left (h.home a n hn),fun c z hz hc=>?_,h.adj,h.lro⟩
 ·obtain ⟨n,u,h1,h2,h3⟩:=h.at_ a z hz
  exact ⟨n,u,h1,get_left h2,h3⟩
 ·rcases get_snoc hz with hz | ⟨rfl,rfl⟩
  ·obtain ⟨h1,a,n,u,h2,h3⟩:=h.out c z hz hc
   exact ⟨h1,a,n,u,get_left h2,h3⟩
  ·obtain ⟨n,u,h1,h2,_⟩:=h.at_ _ x hx
   have:=h.lt n (mem_of_get h1)
   refine ⟨hd,ds.length - 1,n,x,by rw [← h.blen];exact get_last _ _,h1,this,hx,ht,fun b m hb hab=>?_⟩
   have:=lt_of_get hb
   have:=h.len
   have:=lt_of_get hx
   omega
def LrRel (pos:List Nat) (lr lr':Int):Prop:=lr'=up (fun a=>pos.getD a 0) lr∧lr < pos.length
theorem LrRel.snoc {pos:List Nat} {lr lr':Int} (h:LrRel pos lr lr') (n:Nat):LrRel (pos++[n]) lr lr':=⟨h.1.trans (up_snoc h.2).symm,by have:=h.2;simp;omega⟩
theorem insD {ds es : List De} {pos back : List Nat} (h : InsE ds es pos back) {lr lr' : Int} (hr : LrRel pos lr lr') (t i i' : Nat) (d : D) : ∃ pos' back', InsE (ds ++ deD t i lr ds.length d) (es ++ deD t i' lr' es.length d) pos' back' ∧ LrRel pos' (lrOf lr ds.length d) (lrOf lr' es.length d) := by
  have hlen := h.len
  by_cases h9 : (d.k == 9) = true
  · have hnr : reads d.k = false := by have : d.k = 9 := by simpa using h9
                                       rw [this]; rfl
    have e1 : lrOf lr ds.length d = lr := by simp [lrOf, hnr]
    have e2 : lrOf lr' es.length d = lr' := by simp [lrOf, hnr]
    rw [deD_wait h9, deD_wait h9, e1, e2, ← List.append_assoc, ← List.append_assoc]
    exact ⟨_, _, h.keep2 rfl rfl rfl hr.1 (by have := hr.2; simp only; omega) rfl rfl rfl hr.1 (by have := hr.2; simp only; omega) rfl, (hr.snoc _).snoc _⟩
  · have h9' : (d.k == 9) = false := by simpa using h9
    rw [deD_one h9', deD_one h9']
    have key : lrOf lr' es.length d = up (fun a => (pos ++ [es.length]).getD a 0) (lrOf lr ds.length d) ∧ lrOf lr ds.length d ≤ ds.length := by
      unfold lrOf
      split
      · refine ⟨?_, by omega⟩
        rw [up_nat]
        simp only [List.getD_eq_getElem?_getD]
        rw [← hlen, get_last]; rfl
      · exact ⟨(hr.snoc es.length).1, by have := hr.2; omega⟩
    refine ⟨_, _, h.keep rfl rfl rfl key.1 key.2 (fun e => by simp at h9; exact absurd e h9), key.1, ?_⟩
    have := key.2
    simp; omega
theorem last_t {ds:List De} {t i n:Nat} {lr:Int} {d:D}:∃ x,(ds++deD t i lr n d)[(ds++deD t i lr n d).length - 1]?=some x∧x.t=t:=by
 unfold deD
 split
 ·exact ⟨_,by simp;rfl,rfl⟩
 ·exact ⟨_,by simp;rfl,rfl⟩
theorem insR (gs:List Int) (t:Nat):∀ (l:List D) (n i i':Nat) (lr lr':Int) (ds es:List De) (pos back:List Nat),InsE ds es pos back→LrRel pos lr lr'→(∃ x,ds[ds.length - 1]?=some x∧x.t=t)→∃ pos' back',InsE (ds++deT t i lr ds.length l) (es++deT t i' lr' es.length (wallR gs n l)) pos' back'
 | [],n,i,i',lr,lr',ds,es,pos,back,h,hr,hx=>⟨pos,back,by simpa [deT,wallR] using h⟩
 | d::l,n,i,i',lr,lr',ds,es,pos,back,h,hr,⟨x,hx,hxt⟩=>by
  have step:∀ (j:Nat) (es:List De) (back:List Nat),InsE ds es pos back→∃ pos' back',InsE (ds++deT t i lr ds.length (d::l)) (es++deT t j lr' es.length (d::wallR gs (n+1) l)) pos' back':=by
   intro j es back h
   obtain ⟨p1,b1,h1,r1⟩:=insD h hr t i j d
   obtain ⟨p2,b2,h2⟩:=insR gs t l (n+1) (i+1) (j+1) _ _ _ _ p1 b1 h1 r1 last_t
   refine ⟨p2,b2,?_⟩
   simp only [deT]
   rw [← List.append_assoc,← List.append_assoc]
   simpa using h2
  rw [wallR]
  unfold pre
  split
  ·have hw:deD t i' lr' es.length wall=[⟨t,i',false,wall,lr'⟩]:=by simp [deD,wall,lrOf,reads]
   have hlw:lrOf lr' es.length wall=lr':=by simp [lrOf,wall,reads]
   have hA:=h.add (x:=x) (y:=⟨t,i',false,wall,lr'⟩) rfl hx hxt
   obtain ⟨p2,b2,h2⟩:=step (i'+1) _ _ hA
   refine ⟨p2,b2,?_⟩
   have e:deT t i' lr' es.length ([wall]++d::wallR gs (n+1) l)=[⟨t,i',false,wall,lr'⟩]++deT t (i'+1) lr' (es.length+1) (d::wallR gs (n+1) l):=by
    rw [List.singleton_append,deT,hw,hlw];rfl
   rw [e,← List.append_assoc es]
   simpa using h2
  ·simpa using step i' es back h
theorem insT (gs:List Int) (t n:Nat) (l:List D) {ds es:List De} {pos back:List Nat} (h:InsE ds es pos back):∃ pos' back',InsE (ds++deT t 0 (-1) ds.length l) (es++deT t 0 (-1) es.length (wallT gs n l)) pos' back':=by
 cases l with
 | nil=>exact ⟨pos,back,by simpa [deT,wallT] using h⟩
 | cons d l =>
  have hr:LrRel pos (-1) (-1):=⟨by rw [up_neg (by omega)],by omega⟩
  obtain ⟨p1,b1,h1,r1⟩:=insD h hr t 0 0 d
  obtain ⟨p2,b2,h2⟩:=insR gs t l n 1 1 _ _ _ _ p1 b1 h1 r1 last_t
  refine ⟨p2,b2,?_⟩
  rw [wallT]
  simp only [deT]
  rw [← List.append_assoc,← List.append_assoc]
  simpa using h2
theorem insF (gs:List Int):∀ (ll:List (List D)) (t n:Nat) (ds es:List De) (pos back:List Nat),InsE ds es pos back→∃ pos' back',InsE (ds++deF t ds.length ll) (es++deF t es.length (walls gs n ll)) pos' back'
 | [],t,n,ds,es,pos,back,h=>⟨pos,back,by simpa [deF,walls] using h⟩
 | l::ll,t,n,ds,es,pos,back,h=>by
  obtain ⟨p1,b1,h1⟩:=insT gs t n l h
  obtain ⟨p2,b2,h2⟩:=insF gs ll (t+1) (n+(l.length - 1)) _ _ p1 b1 h1
  refine ⟨p2,b2,?_⟩
  rw [walls]
  simp only [deF]
  rw [← List.append_assoc,← List.append_assoc]
  simpa using h2
theorem ins_walls (gs:List Int) (ll:List (List D)):∃ pos back,InsE (deeds ll) (deeds (walls gs 0 ll)) pos back:=by
 have:=insF gs ll 0 0 [] [] [] [] .nil
 simpa [deeds] using this
end M
end Go.Proofs.YtjjkicffhpcngaaGreat
namespace Go.Proofs.YtjjkicffhpcngaaGreat
namespace M
def at0 (pos:List Nat) (a:Nat):Nat:=pos.getD a 0
theorem at0_of {pos:List Nat} {a n:Nat} (h:pos[a]?=some n):at0 pos a=n:=by simp [at0,List.getD_eq_getElem?_getD,h]
section
variable {ds es : List De} {pos back : List Nat}
theorem InsE.get (h:InsE ds es pos back) {a:Nat} {x:De} (hx:ds[a]?=some x):pos[a]?=some (at0 pos a)∧∃ y,es[at0 pos a]?=some y∧y.d=x.d∧y.t=x.t∧y.last=x.last∧y.lr=up (at0 pos) x.lr:=by
 obtain ⟨n,y,h1,h2,h3⟩:=h.at_ a x hx
 rw [at0_of h1]
 exact ⟨h1,y,h2,h3⟩
theorem InsE.pget (h:InsE ds es pos back) {a:Nat} (ha:a < ds.length):pos[a]?=some (at0 pos a):=(h.get (List.getElem?_eq_getElem ha)).1
theorem InsE.mono (h:InsE ds es pos back) {a b:Nat} (hab:a < b) (hb:b < ds.length):at0 pos a < at0 pos b:=by
 have h1:=h.pget (show a < ds.length by omega)
 have h2:=h.pget hb
 obtain ⟨p1,e1⟩:=List.getElem?_eq_some_iff.1 h1
 obtain ⟨p2,e2⟩:=List.getElem?_eq_some_iff.1 h2
 rw [← e1,← e2]
 exact List.pairwise_iff_getElem.1 h.asc a b p1 p2 hab
theorem InsE.lt_iff (h:InsE ds es pos back) {a b:Nat} (ha:a < ds.length) (hb:b < ds.length):at0 pos a < at0 pos b↔a < b:=by
 constructor
 ·intro hlt
  apply Classical.byContradiction
  intro hn
  rcases Nat.lt_or_ge b a with h1 | h1
  ·have:=h.mono h1 ha;omega
  ·have:a=b:=by omega
   subst this;omega
 ·intro hlt;exact h.mono hlt hb
theorem InsE.inj (h:InsE ds es pos back) {a b:Nat} (ha:a < ds.length) (hb:b < ds.length) (e:at0 pos a=at0 pos b):a=b:=by
 have h1:=h.lt_iff ha hb
 have h2:=h.lt_iff hb ha
 omega
theorem InsE.le_iff (h:InsE ds es pos back) {a b:Nat} (ha:a < ds.length) (hb:b < ds.length):at0 pos a≤at0 pos b↔a≤b:=by
 have h2:=h.lt_iff hb ha
 omega
theorem InsE.inside (h:InsE ds es pos back) {c:Nat} (hc:c∈pos):∃ a,a < ds.length∧at0 pos a=c:=by
 obtain ⟨a,ha,rfl⟩:=List.getElem_of_mem hc
 exact ⟨a,by rw [← h.len];exact ha,at0_of (List.getElem?_eq_getElem ha)⟩
theorem wall_uses {y:De} (h:y.d=wall):y.uses=false:=by
 show M.uses y.d.k=false
 rw [h];rfl
theorem InsE.emb (h:InsE ds es pos back) (hpr:∀ x∈ds,x.uses=true→0≤x.d.p∧x.d.p < 3):Emb ds es (at0 pos) id id:=by
 refine ⟨fun a x hx=>?_,fun a b ha hb e=>h.inj ha hb e,fun c y hy hu=>?_,hpr,fun p h0 h3=>⟨h0,h3⟩,fun p q _ _ _ _ e=>e,rfl,h.lro⟩
 ·obtain ⟨_,y,h2,h3,_,_,h6⟩:=h.get hx
  refine ⟨y,h2,?_,by rw [h3],by rw [h3],fun _=>by rw [h3];rfl,by rw [h3];rfl,fun _=>h6⟩
  show M.reads y.d.k=M.reads x.d.k
  rw [h3]
 ·by_cases hc:c∈pos
  ·exact h.inside hc
  ·have:=wall_uses (h.out c y hy hc).1
   rw [this] at hu;cases hu
theorem InsE.core (h:InsE ds es pos back) {c:Nat} {y:De} (hy:es[c]?=some y) (hk:y.d.k≠4):∃ a,a < ds.length∧at0 pos a=c:=by
 by_cases hc:c∈pos
 ·exact h.inside hc
 ·exact absurd (by rw [(h.out c y hy hc).1];rfl) hk
theorem InsE.kinds (h:InsE ds es pos back) {κ:Int} (hκ:κ≠4) {L:Nat→Prop} {L':Nat→Prop} (hL:∀ a,a < ds.length→(L a↔L' (at0 pos a))):(∀ q (hq:q < ds.length),L q→ds[q].d.k≠κ)↔(∀ q (hq:q < es.length),L' q→es[q].d.k≠κ):=by
 constructor
 ·intro hk q hq hl e
  obtain ⟨a,ha,rfl⟩:=h.core (List.getElem?_eq_getElem hq) (by rw [e];exact hκ)
  obtain ⟨_,y,h2,h3,_⟩:=h.get (List.getElem?_eq_getElem ha)
  rw [List.getElem?_eq_getElem hq] at h2
  obtain rfl:=Option.some.inj h2
  exact hk a ha ((hL a ha).2 hl) (by rw [← h3];exact e)
 ·intro hk q hq hl e
  obtain ⟨_,y,h2,h3,_⟩:=h.get (List.getElem?_eq_getElem hq)
  obtain ⟨hc,rfl⟩:=List.getElem?_eq_some_iff.1 h2
  exact hk _ hc ((hL q hq).1 hl) (by rw [h3];exact e)
theorem InsE.lt2 (h:InsE ds es pos back) {a:Nat} (ha:a < ds.length):at0 pos a < es.length:=h.lt _ (mem_of_get (h.pget ha))
theorem InsE.outs (h:InsE ds es pos back) {a b:Nat} (ha:a < ds.length) (hb:b < ds.length):b≤outOf ds a↔at0 pos b≤outOf es (at0 pos a):=by
 have h1:=h.lt2 ha
 have h2:=h.lt2 hb
 rw [le_outOf (by omega) (by omega),le_outOf (by omega) (by omega)]
 have:=h.kinds (κ:=8) (by omega) (L:=fun q=>a≤q∧q < b) (L':=fun q=>at0 pos a≤q∧q < at0 pos b) fun q hq=>by rw [h.le_iff ha hq,h.lt_iff hq hb]
 constructor
 ·intro hk q hq x y;exact this.1 (fun q hq l=>hk q hq l.1 l.2) q hq ⟨x,y⟩
 ·intro hk q hq x y;exact this.2 (fun q hq l=>hk q hq l.1 l.2) q hq ⟨x,y⟩
theorem InsE.ins (h:InsE ds es pos back) {a b:Nat} (ha:a < ds.length) (hb:b < ds.length):inOf ds b≤a↔inOf es (at0 pos b)≤at0 pos a:=by
 have h1:=h.lt2 ha
 have h2:=h.lt2 hb
 rw [inOf_le hb,inOf_le h2]
 have:=h.kinds (κ:=7) (by omega) (L:=fun q=>a < q∧q≤b) (L':=fun q=>at0 pos a < q∧q≤at0 pos b) fun q hq=>by rw [h.lt_iff ha hq,h.le_iff hq hb]
 constructor
 ·intro hk q hq x y;exact this.1 (fun q hq l=>hk q hq l.1 l.2) q hq ⟨x,y⟩
 ·intro hk q hq x y;exact this.2 (fun q hq l=>hk q hq l.1 l.2) q hq ⟨x,y⟩
theorem InsE.must (h:InsE ds es pos back) (hpr:∀ x∈ds,x.uses=true→0≤x.d.p∧x.d.p < 3) {x y:Wy} (R:Rel ds (at0 pos) id x y) (hx:WO ds x.1 x.2) (hy:WO es y.1 y.2) (k:Nat) {a b:Nat} {s t s' t':De} (ha:ds[a]?=some s) (hb:ds[b]?=some t) (ha':es[at0 pos a]?=some s') (hb':es[at0 pos b]?=some t'):M.must es y.1 y.2 k (at0 pos a) (at0 pos b) s' t'=M.must ds x.1 x.2 k a b s t:=by
 have la:=lt_of_get ha
 have lb:=lt_of_get hb
 have E:=h.emb hpr
 obtain ⟨_,u,h2,d1,t1,_,r1⟩:=h.get ha
 rw [ha'] at h2
 obtain rfl:=Option.some.inj h2
 obtain ⟨_,u,h2,d2,t2,_,r2⟩:=h.get hb
 rw [hb'] at h2
 obtain rfl:=Option.some.inj h2
 have hr:=E.read R hx hy la lb
 have ho:=E.over R hx ha hb ha' hb'
 have hown:own (at0 pos a) (at0 pos b) s' t'=own a b s t:=by
  unfold own
  rw [t1,t2]
  congr 1
  rw [decide_eq_decide]
  exact h.lt_iff la lb
 have hone:onePl s' t'=onePl s t:=by
  unfold onePl
  rw [show s'.uses=s.uses from congrArg (fun d:D=>M.uses d.k) d1,show t'.uses=t.uses from congrArg (fun d:D=>M.uses d.k) d2,d1,d2]
 have htwo:two s' t'=two s t:=by unfold two;rw [t1,t2]
 have hin:goesIn es (at0 pos a) (at0 pos b) s'=goesIn ds a b s:=by
  unfold goesIn
  rw [d1]
  congr 1
  rw [decide_eq_decide]
  exact (h.outs la lb).symm
 have hgo:goesOut es (at0 pos a) (at0 pos b) t'=goesOut ds a b t:=by
  unfold goesOut
  rw [d2]
  congr 1
  rw [decide_eq_decide]
  exact (h.ins la lb).symm
 have hcp:copyOf (at0 pos a) t'=copyOf a t:=by
  unfold copyOf
  rw [d2,r2]
  congr 1
  rw [Bool.eq_iff_iff,beq_iff_eq,beq_iff_eq]
  have hl:=h.lro t (mem_of_get hb)
  constructor
  ·intro e
   rw [← up_nat] at e
   exact E.up_inj hl (by omega) e
  ·intro e;rw [e,up_nat]
 have hl:loose es (at0 pos a) (at0 pos b) s' t'=loose ds a b s t:=by
  unfold loose keeps
  rw [hown,hin,hgo,hcp,d1,d2]
 have hla:late (at0 pos a) (at0 pos b) s' t'=late a b s t:=by unfold late;rw [hown,d1,d2]
 unfold M.must
 rw [hr,ho,hown,hone,htwo,hl,hla]
theorem InsE.out_at (h:InsE ds es pos back) (hr:run false ds=some false) {r:Nat} (hk:r < ds.length) (h7:ds[r].d.k=7):outOf es (at0 pos r)=at0 pos (outOf ds r):=by
 obtain ⟨ho,h8⟩:=M.out_at hr hk h7
 have h1:=(h.outs hk ho).1 (Nat.le_refl _)
 apply Nat.le_antisymm _ h1
 apply Classical.byContradiction
 intro hn
 have hlt:=h.lt2 ho
 have hrl:=h.lt2 hk
 obtain ⟨_,y,hy,hd,_⟩:=h.get (List.getElem?_eq_getElem ho)
 have hle:at0 pos r≤at0 pos (outOf ds r):=(h.le_iff hk ho).2 (by have:=(le_outOf (ds:=ds) (a:=r) (b:=r) (by omega) (by omega)).2 (fun q _ x y=>by omega);omega)
 have:=(le_outOf (ds:=es) (a:=at0 pos r) (b:=at0 pos (outOf ds r)+1) (by omega) (by omega)).1 (by omega) (at0 pos (outOf ds r)) hlt hle (by omega)
 rw [List.getElem?_eq_getElem hlt] at hy
 obtain rfl:=Option.some.inj hy
 exact this (by rw [hd];exact h8)
def img (f:Nat→Nat) (c:Ch):Ch:=((f c.1.1,f c.1.2),(f c.2.1,f c.2.2))
theorem mem_choices {ds:List De} {c:Ch}:c∈choices ds↔∃ (w r:Nat) (x y:De),ds[w]?=some x∧x.d.k=9∧x.last=false∧ds[r]?=some y∧y.d.k=7∧c=((outOf ds r,w+1),(w,r)):=by
 simp only [choices,List.mem_flatMap,choicesAt,List.mem_map,List.mem_filter,List.mem_range]
 constructor
 ·rintro ⟨w,⟨hw,hwt⟩,r,⟨hr,hk⟩,rfl⟩
  unfold waitsAt at hwt
  rw [List.getElem?_eq_getElem hw] at hwt
  rw [kAt_eq hr] at hk
  simp only [Bool.and_eq_true,beq_iff_eq,Bool.not_eq_true'] at hwt
  exact ⟨w,r,ds[w],ds[r],List.getElem?_eq_getElem hw,hwt.1,hwt.2,List.getElem?_eq_getElem hr,by simpa using hk,rfl⟩
 ·rintro ⟨w,r,x,y,hx,h9,hf,hy,h7,rfl⟩
  refine ⟨w,⟨lt_of_get hx,?_⟩,r,⟨lt_of_get hy,?_⟩,rfl⟩
  ·unfold waitsAt;rw [hx];simp [h9,hf]
  ·unfold kAt;rw [hy];simp [h7]
theorem InsE.choices_up (h:InsE ds es pos back) (hr:run false ds=some false) {c:Ch} (hc:c∈choices ds):img (at0 pos) c∈choices es:=by
 obtain ⟨w,r,x,y,hx,h9,hf,hy,h7,rfl⟩:=mem_choices.1 hc
 obtain ⟨_,x',hx',hd,_,hl,_⟩:=h.get hx
 obtain ⟨_,y',hy',hd2,_⟩:=h.get hy
 obtain ⟨n,hn,hn1⟩:=h.adj w x hx h9 hf
 obtain ⟨hrl,rfl⟩:=List.getElem?_eq_some_iff.1 hy
 refine mem_choices.2 ⟨at0 pos w,at0 pos r,x',y',hx',by rw [hd];exact h9,by rw [hl];exact hf,hy',by rw [hd2];exact h7,?_⟩
 rw [h.out_at hr hrl h7]
 simp only [img,at0_of hn,at0_of hn1]
theorem InsE.choices_dn (h:InsE ds es pos back) (hr:run false ds=some false) {c:Ch} (hc:c∈choices es):∃ c0∈choices ds,c=img (at0 pos) c0:=by
 obtain ⟨w,r,x,y,hx,h9,hf,hy,h7,rfl⟩:=mem_choices.1 hc
 obtain ⟨w0,hw0,rfl⟩:=h.core hx (by omega)
 obtain ⟨r0,hr0,rfl⟩:=h.core hy (by omega)
 obtain ⟨_,x',hx',hd,_,hl,_⟩:=h.get (List.getElem?_eq_getElem hw0)
 rw [hx] at hx'
 obtain rfl:=Option.some.inj hx'
 obtain ⟨_,y',hy',hd2,_⟩:=h.get (List.getElem?_eq_getElem hr0)
 rw [hy] at hy'
 obtain rfl:=Option.some.inj hy'
 have h9':ds[w0].d.k=9:=by rw [← hd];exact h9
 have hf':ds[w0].last=false:=by rw [← hl];exact hf
 have h7':ds[r0].d.k=7:=by rw [← hd2];exact h7
 obtain ⟨n,hn,hn1⟩:=h.adj w0 _ (List.getElem?_eq_getElem hw0) h9' hf'
 refine ⟨_,mem_choices.2 ⟨w0,r0,_,_,List.getElem?_eq_getElem hw0,h9',hf',List.getElem?_eq_getElem hr0,h7',rfl⟩,?_⟩
 rw [h.out_at hr hr0 h7']
 simp only [img,at0_of hn,at0_of hn1]
end
theorem leads_fold {E F:List Lk} {h:Nat→Nat} (hE:∀ l∈E,Leads F (h l.1) (h l.2)∨(h l.1=h l.2∧l.1 < l.2)) {u v:Nat} (hl:Leads E u v):Leads F (h u) (h v)∨(h u=h v∧u < v):=by
 induction hl with
 | one h1=>exact hE _ h1
 | more _ h2 ih =>
  have h3:=hE _ h2
  simp only at h3
  rcases ih with ih | ⟨ih,hlt⟩
  ·rcases h3 with h3 | ⟨h3,_⟩
   ·exact .inl (ih.trans h3)
   ·exact .inl (h3▸ih)
  ·rcases h3 with h3 | ⟨h3,hlt2⟩
   ·exact .inl (ih▸h3)
   ·exact .inr ⟨ih.trans h3,by omega⟩
theorem round_fold {E F:List Lk} {h:Nat→Nat} (hE:∀ l∈E,Leads F (h l.1) (h l.2)∨(h l.1=h l.2∧l.1 < l.2)) (hr:Round E):Round F:=by
 obtain ⟨a,ha⟩:=hr
 rcases leads_fold hE ha with h1 | ⟨_,h1⟩
 ·exact ⟨_,h1⟩
 ·omega
theorem sat_fold {E F:List Lk} {cs cs':List Ch} {f h:Nat→Nat} (hE:∀ l∈E,Leads F (h l.1) (h l.2)∨(h l.1=h l.2∧l.1 < l.2)) (hc:∀ c∈cs',∃ c0∈cs,c=img f c0) (hf:∀ c∈cs,h (f c.1.1)=c.1.1∧h (f c.1.2)=c.1.2∧h (f c.2.1)=c.2.1∧h (f c.2.2)=c.2.2) (hs:Sat F cs):Sat E cs':=by
 obtain ⟨S,h1,h2⟩:=sat_iff.1 hs
 refine sat_iff.2 ⟨((cs.flatMap fun c=>[c.1,c.2]).filter fun l=>decide (l∈S)).map fun l=>(f l.1,f l.2),fun c hcc=>?_,fun hr=>h2 (round_fold (h:=h) (fun l hl=>?_) hr)⟩
 ·obtain ⟨c0,hc0,rfl⟩:=hc c hcc
  rcases h1 c0 hc0 with h3 | h3
  ·left
   exact List.mem_map.2 ⟨c0.1,List.mem_filter.2 ⟨List.mem_flatMap.2 ⟨c0,hc0,by simp⟩,by simpa using h3⟩,rfl⟩
  ·right
   exact List.mem_map.2 ⟨c0.2,List.mem_filter.2 ⟨List.mem_flatMap.2 ⟨c0,hc0,by simp⟩,by simpa using h3⟩,rfl⟩
 ·rcases List.mem_append.1 hl with hl | hl
  ·obtain ⟨l0,hl0,rfl⟩:=List.mem_map.1 hl
   obtain ⟨hm,hS⟩:=List.mem_filter.1 hl0
   obtain ⟨c0,hc0,hin⟩:=List.mem_flatMap.1 hm
   have hff:=hf c0 hc0
   left
   have hS':l0∈S:=by simpa using hS
   have key:h (f l0.1)=l0.1∧h (f l0.2)=l0.2:=by
    rcases List.mem_cons.1 hin with e | e
    ·rw [e];exact ⟨hff.1,hff.2.1⟩
    ·rw [List.mem_singleton.1 e];exact ⟨hff.2.2.1,hff.2.2.2⟩
   simp only
   rw [key.1,key.2]
   exact .one (List.mem_append.2 (.inl hS'))
  ·rcases hE l hl with h3 | h3
   ·exact .inl (h3.sub fun x hx=>List.mem_append.2 (.inr hx))
   ·exact .inr h3
end M
end Go.Proofs.YtjjkicffhpcngaaGreat
