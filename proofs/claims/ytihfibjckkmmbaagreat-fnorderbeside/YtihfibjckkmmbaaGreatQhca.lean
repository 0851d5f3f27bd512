/- The law FnOrderBesideIn, walked: it answers true, and leaves all as it was. Of whatever code. The law FnOrderBeside, walked: it answers true, and leaves all as it was. Of whatever code. -/
import Derived.Below
import Derived.BigQuiet
import Derived.Deep.AppendLies
import Derived.Deep.CutRange
import Derived.Deep.MidRow
import Derived.Deep.Quiet
import Derived.Deep.QuietTactic
import Derived.Deep.RegionHeld3
import Derived.Deep.RegionLaw
import Derived.Deep.RegionWith
import Derived.Deep.Slices
import Derived.Deep.WholeRow
import Derived.Handy
import Derived.Laws.AppendOwn
import Derived.Laws.AppendOwnNone
import Derived.Laws.EntriesVeiled
import Derived.Laws.IdiomCopy
import Derived.Laws.OwnMore
import Derived.Lib.AppendZerosOnto
import Derived.Lib.SliceRun
import Derived.LoopIn
import Derived.LoopN
import Derived.LoopNIn
import Derived.Maps.AppendAt
import Derived.OwnWalkIn
import Derived.RangeFuncBound
import Derived.RangeFuncLeaves
import Derived.RangeFuncNested
import Derived.Shelf.Abstract
import Derived.Shelf.SlSortCmp.NoneTotal
import Derived.Sort.Grow
import Derived.TacticsInMore
import Derived.WalkKit
import Derived.WalkLawsBesides
import Derived.WalkSpells
import Derived.Deep.OwnRows
import Derived.Test.YtihfibjckkmmbaaGreatRows
import Derived.Test.YtihfibjckkmmbaaGreatQhbp
import Derived.Test.YtihfibjckkmmbaaGreatQhbz
namespace Go.Proofs.YtihfibjckkmmbaaGreat
open Go.RowKit
def M.zrN (ll:List (List M.D)) (l:List Int):Nat→List Int
 | 0=>l
 | n+1=>if M.anyK (M.usesP n) ll then M.zrN ll l n else (M.zrN ll l n).set n 0
theorem M.biThree {l:List Int} (h:l.length=3):∃ x y z,l=[x,y,z]:=by
 match l,h with
 | [x,y,z],_=>exact ⟨x,y,z,rfl⟩
theorem M.zrN_cut {ll:List (List M.D)} (hp:M.prog ll=true) {z:Key} (h3:z.2.length=3):(z.1.take (M.tot M.reads ll),M.zrN ll z.2 3)=M.cutB ll z:=by
 obtain ⟨z1,z2⟩:=z
 simp only at h3
 obtain ⟨x,y,w,rfl⟩:=M.biThree h3
 have e0:M.anyK (M.usesP ((0:Nat):Int)) ll=M.uAt ll 0:=(M.uAt_eq hp 0).symm
 have e1:M.anyK (M.usesP ((1:Nat):Int)) ll=M.uAt ll 1:=(M.uAt_eq hp 1).symm
 have e2:M.anyK (M.usesP ((2:Nat):Int)) ll=M.uAt ll 2:=(M.uAt_eq hp 2).symm
 unfold M.cutB
 simp only [M.zrN,e0,e1,e2]
 generalize M.uAt ll 0=b0
 generalize M.uAt ll 1=b1
 generalize M.uAt ll 2=b2
 cases b0<;>cases b1<;>cases b2<;>simp
theorem M.beside_law {mm qq nn:List (List M.D)} {kn:Int} (e:(M.turnBeside mm qq).getD []=nn) (hk:1≤kn∧kn≤3) (h:(M.turnBeside mm qq).isSome=true):nn=mm++qq∧(M.ownP mm qq=true→M.nreads mm=(M.tot M.reads mm:Int)∧0 < (M.orderAll nn kn).length∧∀ z∈M.orderAll nn kn,(z.1.take (M.tot M.reads mm),M.zrN mm z.2 3)∈M.orderAll mm kn∧z.2.length=3∧M.tot M.reads mm≤z.1.length):=by
 obtain ⟨y,hy⟩:=Option.isSome_iff_exists.1 h
 obtain ⟨h1,h2,h3,h4⟩:=M.turnBeside_some hy
 rw [hy] at e
 obtain rfl:y=nn:=e
 subst h4
 refine ⟨rfl,fun ho=>⟨M.nreads_ok h1,?_,fun z hz=>?_⟩⟩
 ·obtain ⟨kk,rfl⟩:=Int.eq_ofNat_of_zero_le (show 0≤kn by omega)
  exact List.length_pos_of_mem (M.mem_orderAll.2 ⟨(M.seqF (M.deeds (mm++qq)),M.seqO (M.deeds (mm++qq))),M.seq_holds h3 (k:=kk) (by omega) (by omega),rfl⟩)
 ·obtain ⟨k1,k2,k3⟩:=M.all_in h1 h2 h3 (M.own_of h1 h2 ho) hz
  rw [M.zrN_cut h1 k2]
  exact ⟨k1,k2,k3⟩
end Go.Proofs.YtihfibjckkmmbaaGreat
namespace Go.Proofs.YtihfibjckkmmbaaGreat
open Go.RowKit
theorem M.beThree {l:List Int} (h:l.length=3):∃ x y z,l=[x,y,z]:=by
 match l,h with
 | [x,y,z],_=>exact ⟨x,y,z,rfl⟩
theorem M.orderAll_vals3 {mm:List (List M.D)} {k:Int} {z:Key} (hz:z∈M.orderAll mm k):z.2.length=3∧∀ x∈z.2,0≤x∧x≤3:=by
 obtain ⟨x,hx,rfl⟩:=M.mem_orderAll.1 hz
 have W:=M.way_of (M.holds_parts_of hx).2
 have h4:M.vals (M.seenL (M.deeds mm) x.1 x.2)=true:=M.last_in W x.2 (fun _ h=>h)
 simp only [M.vals,List.all_eq_true,Bool.and_eq_true,decide_eq_true_eq] at h4
 exact ⟨by show (M.seenL _ _ _).length=3;rw [M.seenL,List.length_map];exact W.three.out,h4⟩
theorem M.orderAll_zero {mm:List (List M.D)} (hp:M.prog mm=true) {k:Int} {z:Key} (hz:z∈M.orderAll mm k) {p:Int} (h0:0≤p) (h3:p < 3) (hU:M.uAt mm p=false):z.2.getD p.toNat 0=0:=by
 obtain ⟨x,hx,rfl⟩:=M.mem_orderAll.1 hz
 have W:=(M.exec_wo.1 (M.holds_parts_of hx).2).2
 show (M.seenL _ _ _).getD _ 0=0
 rw [M.seenL_at W.three h0 h3]
 have P:M.Part (M.deeds mm) (M.deeds mm) 0 (M.uAt mm):=by
  refine ⟨fun a x hx=>⟨x,by rw [Nat.zero_add];exact hx,rfl,rfl,by rw [M.upS];split<;>omega⟩,fun c y hy _ _=>⟨Nat.zero_le _,by have:=M.lt_of_get hy;omega⟩,fun x hx hu=>⟨M.deed_u hp x hx hu,M.uAt_of hx hu⟩,fun a b x y x' y' hx hy hx' hy'=>?_,M.lro_deeds mm⟩
  rw [Nat.zero_add,hx] at hx'
  rw [Nat.zero_add,hy] at hy'
  obtain rfl:=Option.some.inj hx'
  obtain rfl:=Option.some.inj hy'
  exact Iff.rfl
 exact P.last_no W h0 h3 hU
theorem M.both_inj {mm qq:List (List M.D)} (hp:M.prog mm=true) (hq:M.prog qq=true) (ho:M.Own mm qq) {k:Int} {a a' b b':Key} (ha:a∈M.orderAll mm k) (ha':a'∈M.orderAll mm k) (hb:b∈M.orderAll qq k) (hb':b'∈M.orderAll qq k) (e:M.both a b=M.both a' b'):a=a'∧b=b':=by
 have e1:a.1++b.1=a'.1++b'.1:=congrArg Prod.fst e
 have e2:[a.2.getD 0 0+b.2.getD 0 0,a.2.getD 1 0+b.2.getD 1 0,a.2.getD 2 0+b.2.getD 2 0]=[a'.2.getD 0 0+b'.2.getD 0 0,a'.2.getD 1 0+b'.2.getD 1 0,a'.2.getD 2 0+b'.2.getD 2 0]:=congrArg Prod.snd e
 obtain ⟨f1,f2⟩:=List.append_inj e1 (by rw [M.orderAll_reads ha,M.orderAll_reads ha'])
 simp only [List.cons.injEq,and_true] at e2
 have each:∀ p:Int,0≤p→p < 3→a.2.getD p.toNat 0+b.2.getD p.toNat 0=a'.2.getD p.toNat 0+b'.2.getD p.toNat 0→a.2.getD p.toNat 0=a'.2.getD p.toNat 0∧b.2.getD p.toNat 0=b'.2.getD p.toNat 0:=fun p h0 h3 e=>by
  cases hU:M.uAt mm p
  ·have z1:=M.orderAll_zero hp ha h0 h3 hU
   have z2:=M.orderAll_zero hp ha' h0 h3 hU
   omega
  ·have hV:M.uAt qq p=false:=by
    cases hV:M.uAt qq p
    ·rfl
    ·exact (ho p h0 h3 hU hV).elim
   have z1:=M.orderAll_zero hq hb h0 h3 hV
   have z2:=M.orderAll_zero hq hb' h0 h3 hV
   omega
 have k0:=each 0 (by omega) (by omega) e2.1
 have k1:=each 1 (by omega) (by omega) e2.2.1
 have k2:=each 2 (by omega) (by omega) e2.2.2
 obtain ⟨x0,x1,x2,hx⟩:=M.beThree (M.orderAll_vals3 ha).1
 obtain ⟨y0,y1,y2,hy⟩:=M.beThree (M.orderAll_vals3 ha').1
 obtain ⟨u0,u1,u2,hu⟩:=M.beThree (M.orderAll_vals3 hb).1
 obtain ⟨v0,v1,v2,hv⟩:=M.beThree (M.orderAll_vals3 hb').1
 rw [hx,hy,hu,hv] at k0 k1 k2
 refine ⟨Prod.ext f1 ?_,Prod.ext f2 ?_⟩
 ·rw [hx,hy]
  have:=k0.1;have:=k1.1;have:=k2.1
  simp at *
  omega
 ·rw [hu,hv]
  have:=k0.2;have:=k1.2;have:=k2.2
  simp at *
  omega
theorem M.reads_100 {l:List (List M.D)} (hl:M.prog l=true):M.tot M.reads l≤100:=by
 obtain ⟨_,_,_,hu⟩:=(M.prog_iff l).1 hl
 have cm:∀ t:List M.D,M.cnt M.reads t≤M.cnt M.uses t:=fun t=>by
  induction t with
  | nil=>exact Nat.le_refl _
  | cons d t ih =>
   rw [M.cnt_cons,M.cnt_cons]
   have:M.reads d.k=true→M.uses d.k=true:=fun h=>by simp [M.uses,h]
   cases hr:M.reads d.k
   ·simp;omega
   ·rw [this hr];simp;omega
 have tm:∀ l:List (List M.D),M.tot M.reads l≤M.tot M.uses l:=fun l=>by
  induction l with
  | nil=>exact Nat.le_refl _
  | cons t l ih=>have:=cm t;simp only [M.tot];omega
 have:=tm l
 omega
theorem M.nodupK_le:∀ {l m:List Key},l.Nodup→(∀ x∈l,x∈m)→l.length≤m.length
 | [],m,_,_=>by simp
 | x::l,m,hn,h=>by
  have hx:x∈m:=h x (by simp)
  have hn':=List.nodup_cons.1 hn
  have h1:=M.nodupK_le (l:=l) (m:=m.erase x) hn'.2 (fun y hy=>(List.mem_erase_of_ne (show y≠x from fun e=>hn'.1 (by rw [← e];exact hy))).2 (h y (List.mem_cons_of_mem _ hy)))
  rw [List.length_erase_of_mem hx] at h1
  have h2:=List.length_pos_of_mem hx
  rw [List.length_cons];omega
theorem M.ascK_nodup {l:List Ky} (h:M.Asc l):l.Nodup:=List.Pairwise.imp (fun {a b} hlt e=>by rw [e,M.cmpK_self] at hlt;omega) h
theorem M.both_many {mm qq:List (List M.D)} (hp:M.prog mm=true) (hq:M.prog qq=true) (hb:M.prog (mm++qq)=true) (ho:M.Own mm qq) (k:Int):(M.orderAll mm k).length * (M.orderAll qq k).length≤117649:=by
 have hn:((M.orderAll mm k).flatMap fun a=>(M.orderAll qq k).map (M.both a)).Nodup:=by
  rw [List.Nodup,List.pairwise_flatMap]
  refine ⟨fun a ha=>?_,?_⟩
  ·rw [List.pairwise_map]
   refine List.Pairwise.imp_of_mem (fun {b b'} h1 h2 hne e=>hne (M.both_inj hp hq ho ha ha h1 h2 e).2) (M.ascK_nodup (M.asc_orderAll qq k))
  ·refine List.Pairwise.imp_of_mem (fun {a a'} h1 h2 hne x hx y hy e=>?_) (M.ascK_nodup (M.asc_orderAll mm k))
   obtain ⟨b,hb1,rfl⟩:=List.mem_map.1 hx
   obtain ⟨b',hb2,rfl⟩:=List.mem_map.1 hy
   exact hne (M.both_inj hp hq ho h1 h2 hb1 hb2 e).1
 have h1:=M.nodupK_le hn (m:=M.orderAll (mm++qq) k) (fun x hx=>by
  obtain ⟨a,ha,hx⟩:=List.mem_flatMap.1 hx
  obtain ⟨b,hb',rfl⟩:=List.mem_map.1 hx
  exact M.beside_up hp hq hb ho ha hb')
 have h2:=M.orderAll_len (mm++qq) k
 have h3:((M.orderAll mm k).flatMap fun a=>(M.orderAll qq k).map (M.both a)).length=(M.orderAll mm k).length * (M.orderAll qq k).length:=by
  generalize M.orderAll mm k=l
  induction l with
  | nil=>simp
  | cons a l ih=>rw [List.flatMap_cons,List.length_append,List.length_map,ih,List.length_cons,Nat.succ_mul];omega
 omega
theorem M.besideE_law {mm qq nn:List (List M.D)} {kn:Int} (e:(M.turnBeside mm qq).getD []=nn) (_hk:1≤kn∧kn≤3) (h:(M.turnBeside mm qq).isSome=true):nn=mm++qq∧(M.ownP mm qq=true→M.sortK ((M.orderAll mm kn).flatMap fun a=>(M.orderAll qq kn).map (M.both a))=M.orderAll nn kn∧(M.orderAll mm kn).length * (M.orderAll qq kn).length≤117649∧(∀ z∈M.orderAll mm kn,z.2.length=3∧(∀ x∈z.2,0≤x∧x≤3)∧z.1.length≤100)∧(∀ z∈M.orderAll qq kn,z.2.length=3∧(∀ x∈z.2,0≤x∧x≤3)∧z.1.length≤100)):=by
 obtain ⟨y,hy⟩:=Option.isSome_iff_exists.1 h
 obtain ⟨h1,h2,h3,h4⟩:=M.turnBeside_some hy
 rw [hy] at e
 obtain rfl:y=nn:=e
 subst h4
 exact ⟨rfl,fun ho=>⟨M.all_beside h1 h2 h3 (M.own_of h1 h2 ho) kn,M.both_many h1 h2 h3 (M.own_of h1 h2 ho) kn,fun z hz=>⟨(M.orderAll_vals3 hz).1,(M.orderAll_vals3 hz).2,by rw [M.orderAll_reads hz];have:=M.reads_100 h1;omega⟩,fun z hz=>⟨(M.orderAll_vals3 hz).1,(M.orderAll_vals3 hz).2,by rw [M.orderAll_reads hz];have:=M.reads_100 h2;omega⟩⟩⟩
end Go.Proofs.YtihfibjckkmmbaaGreat
