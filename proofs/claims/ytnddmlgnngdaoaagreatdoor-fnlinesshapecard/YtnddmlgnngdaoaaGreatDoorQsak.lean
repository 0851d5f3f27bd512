/- The library's own functions of texts, laid at this program: the table of numbers, and one fact a field. No condition. And what goes with it: TxLay, TxMath, TxB, TxI, TxBack. -/
import Derived.Shelf.Strings.BuilderRune
import Derived.Test.YtnddmlgnngdaoaaGreatDoorRows
import Derived.Test.YtnddmlgnngdaoaaGreatDoorQsai
namespace Go.Proofs.YtnddmlgnngdaoaaGreatDoor
section
open Go.Shelf Go.Proofs
def layTx:Go.Shelf.Ren:=⟨fun | 103=>69 | 104=>66 | 107=>169 | 108=>188 | 122=>183 | 125=>182 | 128=>206 | 129=>146 | 145=>152 | 148=>67 | 166=>22 | 168=>24 | 169=>25 | 171=>23 | 205=>263 | 206=>154 | 207=>150 | 210=>103 | 211=>99 | 215=>207 | 217=>216 | 219=>208 | 220=>186 | 222=>100 | 223=>101 | 224=>218 | 225=>217 | 240=>39 | 242=>41 | 243=>40 | 246=>64 | 266=>221 | 267=>219 | 269=>151 | 276=>63 | 278=>65 | 283=>95 | 284=>96 | 285=>97 | 286=>98 | 314=>222 | 317=>145 | 318=>147 | 319=>148 | 320=>149 | 329=>212 | 330=>213 | 337=>184 | 338=>185 | 347=>223 | 348=>224 | 349=>225 | 350=>226 | 351=>227 | 352=>228 | 353=>229 | 354=>230 | 355=>231 | 356=>232 | 357=>233 | 358=>234 | 359=>235 | 360=>236 | 361=>237 | 362=>239 | 363=>260 | 366=>261 | 367=>271 | n=>n,fun | 22=>235 | 24=>135 | 25=>136 | 27=>137 | 28=>31 | 29=>247 | 30=>182 | 31=>39 | 36=>162 | 37=>22 | 38=>41 | 43=>256 | 45=>161 | 46=>191 | 47=>234 | 49=>306 | 51=>134 | 52=>257 | 53=>155 | 54=>187 | 55=>192 | 59=>238 | 60=>239 | 69=>37 | 70=>59 | 71=>60 | 72=>61 | 73=>160 | 74=>62 | 75=>63 | 76=>64 | 77=>65 | 79=>67 | 80=>68 | 81=>285 | 83=>66 | 84=>133 | 103=>139 | 108=>313 | 111=>109 | 112=>251 | 114=>44 | 126=>95 | 127=>96 | 131=>226 | 143=>279 | 144=>302 | 145=>303 | 146=>236 | 151=>237 | 164=>131 | 165=>132 | 171=>186 | 172=>188 | 173=>189 | 174=>190 | 182=>264 | 183=>265 | 211=>231 | 212=>232 | 213=>233 | 218=>272 | 219=>273 | 220=>200 | 222=>275 | 228=>277 | 229=>23 | 232=>270 | 233=>271 | 238=>280 | 239=>281 | 240=>282 | 241=>283 | 242=>284 | 243=>286 | 244=>287 | 245=>288 | 246=>289 | 247=>290 | 248=>291 | 249=>292 | n=>n,fun | 1=>3 | 17=>2 | 18=>4 | 19=>5 | n=>n⟩
theorem lays166:Go.Proofs.Lays.n166 Tryz.prog layTx:={
 mixed:=by kernel_rfl
 f166:=Tryz.func22.trans (congrArg some (by kernel_rfl))
 f240:=Tryz.func39.trans (congrArg some (by kernel_rfl))
 f276:=Tryz.func63.trans (congrArg some (by kernel_rfl))
 t0:=Tryz.underlying0
 a0:=Tryz.isAgg0
 z0:=Tryz.sizeOf0
 v0:=Tryz.zeroValue0
 t3:=Tryz.underlying3
 a3:=Tryz.isAgg3
 z3:=Tryz.sizeOf3
 v3:=Tryz.zeroValue3
 t4:=Tryz.underlying4
 a4:=Tryz.isAgg4
 z4:=Tryz.sizeOf4
 v4:=Tryz.zeroValue4
 t9:=Tryz.underlying9
 a9:=Tryz.isAgg9
 z9:=Tryz.sizeOf9
 v9:=Tryz.zeroValue9
 t20:=Tryz.underlying20
 a20:=Tryz.isAgg20
 z20:=Tryz.sizeOf20
 v20:=Tryz.zeroValue20
 t37:=Tryz.underlying22
 a37:=Tryz.isAgg22
 z37:=Tryz.sizeOf22
 v37:=Tryz.zeroValue22
 t70:=Tryz.underlying59
 a70:=Tryz.isAgg59
 z70:=Tryz.sizeOf59
 v70:=Tryz.zeroValue59
 t72:=Tryz.underlying61
 a72:=Tryz.isAgg61
 z72:=Tryz.sizeOf61
 v72:=Tryz.zeroValue61
 t75:=Tryz.underlying63
 a75:=Tryz.isAgg63
 z75:=Tryz.sizeOf63
 v75:=Tryz.zeroValue63
 t164:=Tryz.underlying131
 a164:=Tryz.isAgg131
 z164:=Tryz.sizeOf131
 v164:=Tryz.zeroValue131 }
theorem lays168:Go.Proofs.Lays.n168 Tryz.prog layTx:={
 mixed:=by kernel_rfl
 f168:=Tryz.func24.trans (congrArg some (by kernel_rfl))
 f240:=Tryz.func39.trans (congrArg some (by kernel_rfl))
 f242:=Tryz.func41.trans (congrArg some (by kernel_rfl))
 f276:=Tryz.func63.trans (congrArg some (by kernel_rfl))
 f278:=Tryz.func65.trans (congrArg some (by kernel_rfl))
 t0:=Tryz.underlying0
 a0:=Tryz.isAgg0
 z0:=Tryz.sizeOf0
 v0:=Tryz.zeroValue0
 t3:=Tryz.underlying3
 a3:=Tryz.isAgg3
 z3:=Tryz.sizeOf3
 v3:=Tryz.zeroValue3
 t4:=Tryz.underlying4
 a4:=Tryz.isAgg4
 z4:=Tryz.sizeOf4
 v4:=Tryz.zeroValue4
 t5:=Tryz.underlying5
 a5:=Tryz.isAgg5
 z5:=Tryz.sizeOf5
 v5:=Tryz.zeroValue5
 t9:=Tryz.underlying9
 a9:=Tryz.isAgg9
 z9:=Tryz.sizeOf9
 v9:=Tryz.zeroValue9
 t20:=Tryz.underlying20
 a20:=Tryz.isAgg20
 z20:=Tryz.sizeOf20
 v20:=Tryz.zeroValue20
 t21:=Tryz.underlying21
 a21:=Tryz.isAgg21
 z21:=Tryz.sizeOf21
 v21:=Tryz.zeroValue21
 t37:=Tryz.underlying22
 a37:=Tryz.isAgg22
 z37:=Tryz.sizeOf22
 v37:=Tryz.zeroValue22
 t46:=Tryz.underlying191
 a46:=Tryz.isAgg191
 z46:=Tryz.sizeOf191
 v46:=Tryz.zeroValue191
 t51:=Tryz.underlying134
 a51:=Tryz.isAgg134
 z51:=Tryz.sizeOf134
 v51:=Tryz.zeroValue134
 t70:=Tryz.underlying59
 a70:=Tryz.isAgg59
 z70:=Tryz.sizeOf59
 v70:=Tryz.zeroValue59
 t72:=Tryz.underlying61
 a72:=Tryz.isAgg61
 z72:=Tryz.sizeOf61
 v72:=Tryz.zeroValue61
 t75:=Tryz.underlying63
 a75:=Tryz.isAgg63
 z75:=Tryz.sizeOf63
 v75:=Tryz.zeroValue63
 t164:=Tryz.underlying131
 a164:=Tryz.isAgg131
 z164:=Tryz.sizeOf131
 v164:=Tryz.zeroValue131 }
theorem lays169:Go.Proofs.Lays.n169 Tryz.prog layTx:={
 mixed:=by kernel_rfl
 f169:=Tryz.func25.trans (congrArg some (by kernel_rfl))
 t0:=Tryz.underlying0
 a0:=Tryz.isAgg0
 z0:=Tryz.sizeOf0
 v0:=Tryz.zeroValue0
 t3:=Tryz.underlying3
 a3:=Tryz.isAgg3
 z3:=Tryz.sizeOf3
 v3:=Tryz.zeroValue3
 t9:=Tryz.underlying9
 a9:=Tryz.isAgg9
 z9:=Tryz.sizeOf9
 v9:=Tryz.zeroValue9
 t37:=Tryz.underlying22
 a37:=Tryz.isAgg22
 z37:=Tryz.sizeOf22
 v37:=Tryz.zeroValue22
 t70:=Tryz.underlying59
 a70:=Tryz.isAgg59
 z70:=Tryz.sizeOf59
 v70:=Tryz.zeroValue59
 t72:=Tryz.underlying61
 a72:=Tryz.isAgg61
 z72:=Tryz.sizeOf61
 v72:=Tryz.zeroValue61
 t127:=Tryz.underlying96
 a127:=Tryz.isAgg96
 z127:=Tryz.sizeOf96
 v127:=Tryz.zeroValue96 }
theorem layX:Builder.Extra Tryz.prog layTx:={
 sizeBuilder:=by kernel_rfl
 liesBuilder:=by kernel_rfl
 t5:=Tryz.underlying5
 a5:=Tryz.isAgg5
 z5:=Tryz.sizeOf5
 v5:=Tryz.zeroValue5
 infoByte:=by kernel_rfl
 cellsByte:=by kernel_rfl
 sizeByte:=by kernel_rfl
 neB5:=by decide }
end
section
def M.b8 (n:Int):UInt8:=n.toNat.toUInt8
def M.say (d:M.D):List UInt8:=(M.word d.k).data.toList++(if M.uses d.k then [32,M.b8 (120+d.p)] else [])++(if M.stores d.k then [32,M.b8 (48+d.v)] else [])++[10]
def M.sayAll (l:List M.D):List UInt8:=l.flatMap M.say
def M.sayThread (l:List M.D):List UInt8:=[116,104,114,101,97,100,10]++M.sayAll l
def M.sayProg (ll:List (List M.D)):List UInt8:=ll.flatMap M.sayThread
theorem M.word_le (k:Int):(M.word k).data.toList.length≤5:=by
 by_cases h:1≤k∧k≤9
 ·have:k=1∨k=2∨k=3∨k=4∨k=5∨k=6∨k=7∨k=8∨k=9:=by omega
  rcases this with rfl | rfl | rfl | rfl | rfl | rfl | rfl | rfl | rfl<;>decide
 ·have e:∀ c:Int,1≤c→c≤9→(k==c)=false:=fun c h1 h2=>by simp;omega
  have e1:M.word k=⟨#[]⟩:=by simp [M.word,e 1 (by decide) (by decide),e 2 (by decide) (by decide),e 3 (by decide) (by decide),e 4 (by decide) (by decide),e 5 (by decide) (by decide),e 6 (by decide) (by decide),e 7 (by decide) (by decide),e 8 (by decide) (by decide),e 9 (by decide) (by decide)]
  rw [e1]
  decide
theorem M.word_sz (k:Int):(M.word k).size≤5:=by
 have h:=M.word_le k
 rw [Array.length_toList] at h
 exact h
theorem M.say_le (d:M.D):(M.say d).length≤10:=by
 have h:=M.word_le d.k
 unfold M.say
 simp only [List.length_append]
 have h1:(if M.uses d.k then [32,M.b8 (120+d.p)] else []).length≤2:=by split<;>simp
 have h2:(if M.stores d.k then [32,M.b8 (48+d.v)] else []).length≤2:=by split<;>simp
 simp only [List.length_cons,List.length_nil]
 omega
theorem M.sayAll_le (l:List M.D):(M.sayAll l).length≤10 * l.length:=by
 induction l with
 | nil=>simp [M.sayAll]
 | cons d l ih =>
  have:=M.say_le d
  simp only [M.sayAll,List.flatMap_cons,List.length_append,List.length_cons] at *
  omega
theorem M.sayThread_le (l:List M.D):(M.sayThread l).length≤7+10 * l.length:=by
 have:=M.sayAll_le l
 simp only [M.sayThread,List.length_append,List.length_cons,List.length_nil]
 omega
theorem M.encode_one (r:Int) (h0:0≤r) (h1:r≤127):Lib.encodeRune r=[M.b8 r]:=by
 simp [Lib.encodeRune,Lib.encodeRuneZ_one h0 h1,M.b8]
theorem M.sayAll_step {l:List M.D} {n:Nat} {d:M.D} (hd:l.drop n=d::l.drop (n+1)):M.sayAll (l.take (n+1))=M.sayAll (l.take n)++M.say d:=by
 have hn:n < l.length:=by
  rcases Nat.lt_or_ge n l.length with h | h
  ·exact h
  ·rw [List.drop_eq_nil_of_le h] at hd;cases hd
 have e:l[n]=d:=by
  rw [← List.getElem_cons_drop hn] at hd
  exact (List.cons.inj hd).1
 rw [List.take_succ_eq_append_getElem hn,M.sayAll,List.flatMap_append,e]
 simp [M.sayAll]
theorem M.sayProg_step {l:List (List M.D)} {n:Nat} {d:List M.D} (hd:l.drop n=d::l.drop (n+1)):M.sayProg (l.take (n+1))=M.sayProg (l.take n)++M.sayThread d:=by
 have hn:n < l.length:=by
  rcases Nat.lt_or_ge n l.length with h | h
  ·exact h
  ·rw [List.drop_eq_nil_of_le h] at hd;cases hd
 have e:l[n]=d:=by
  rw [← List.getElem_cons_drop hn] at hd
  exact (List.cons.inj hd).1
 rw [List.take_succ_eq_append_getElem hn,M.sayProg,List.flatMap_append,e]
 simp [M.sayProg]
theorem M.doOk_place {d:M.D} (h:M.doOk d=true) (hu:M.uses d.k=true):0≤d.p∧d.p≤2:=by
 obtain ⟨k,p,v⟩:=d
 simp only at hu
 rw [M.doOk_eq] at h
 simp [hu,M.rng] at h
 show 0≤p∧p≤2
 omega
theorem M.doOk_val {d:M.D} (h:M.doOk d=true) (hu:M.stores d.k=true):1≤d.v∧d.v≤3:=by
 obtain ⟨k,p,v⟩:=d
 simp only at hu
 rw [M.doOk_eq] at h
 simp [hu,M.rng] at h
 show 1≤v∧v≤3
 omega
end
section
open Go.RowKit
structure Bd (B b:Nat) (acc:List UInt8) (w:World):Prop where
 is:Lib.IsBuilderF 61 5 B b (Lib.byteCells acc) w
 le:B≤w.heap.size
structure Wrote (B b:Nat) (w w':World):Prop where
 bel:Below B w w'
 oth:Lib.OthersKept 5 (some b) w w'
theorem Wrote.refl (B b:Nat) (w:World):Wrote B b w w:=⟨Below.refl _ _,Lib.OthersKept.refl _ _ _⟩
theorem Wrote.trans {B b:Nat} {w w1 w2:World} (h:Wrote B b w w1) (k:Wrote B b w1 w2):Wrote B b w w2:=⟨h.bel.trans k.bel,h.oth.trans k.oth⟩
theorem Wrote.alloc {B b:Nat} {w w1:World} (h:Wrote B b w w1) (hB:B≤w1.heap.size) (o:Obj):Wrote B b w (w1.alloc o):=⟨h.bel.alloc hB _,h.oth.alloc _⟩
theorem Bd.alloc {B b:Nat} {acc:List UInt8} {w:World} (h:Bd B b acc w) (o:Obj):Bd B b acc (w.alloc o):=⟨h.is.alloc o,Nat.le_trans h.le (by simp)⟩
theorem Bd.fresh (w:World):Bd w.heap.size w.heap.size [] (w.alloc (.cells #[.pointer none,.slice none 0 0] 61)) :=
 ⟨Lib.IsBuilderF.of (Lib.fresh_isBuilder 61 5 w),by simp⟩
theorem Wrote.box {B b:Nat} {w w':World} (h:Wrote B b w w') {k:Nat} {cs:Array Value} {T:TypeId} {f:Nat × Nat} (hk:w.heap[k]?=some (.cells cs T f)) (hkb:k≠b) (hT:T≠5):w'.heap[k]?=some (.cells cs T f) :=
 h.oth k _ hk (fun e=>hkb (Option.some.inj e)) (fun c fz e=>by
  have e':Obj.cells cs T f=Obj.cells c 5 fz:=e
  injection e' with e1 e2 e3
  exact hT e2)
theorem wString_any (B b:Nat) (acc:List UInt8) (s:ByteArray) (w:World) (h:Bd B b acc w) (hlen:acc.length+s.size≤140737488355328) :
  Calls Tryz.prog 22 #[.pointer (some ⟨b,0,none⟩),.string s] w fun e w'=>e=.returned (.tuple #[.int .i64 s.size,.nilIface])∧Bd B b (acc++s.data.toList) w'∧Wrote B b w w' :=
 (Any.Builder_WriteString_k lays166 layX B b (Lib.byteCells acc) s w h.is (by rw [Lib.byteCells_length];exact hlen) h.le).mono fun e w' ⟨he,h1,b1,k1⟩ =>
  ⟨he,⟨by rw [Lib.byteCells_append,← Lib.strCells_eq];exact Or.inr h1,Nat.le_trans h.le b1.size⟩,⟨b1,k1⟩⟩
theorem wRune_any (B b:Nat) (acc:List UInt8) (r:Int) (w:World) (h:Bd B b acc w) (h0:0≤r) (h1:r≤127) (hlen:acc.length+4≤140737488355328) :
  Calls Tryz.prog 24 #[.pointer (some ⟨b,0,none⟩),.int .i32 r] w fun e w'=>e=.returned (.tuple #[.int .i64 (Lib.runeCells r).length,.nilIface])∧Bd B b (acc++[M.b8 r]) w'∧Wrote B b w w' :=
 (Any.Builder_WriteRune_k lays168 layX B b (Lib.byteCells acc) r (by omega) (by omega) w h.is (by rw [Lib.byteCells_length];exact hlen) h.le).mono fun e w' ⟨he,h2,b1,k1⟩ =>
  ⟨he,⟨by rw [Lib.byteCells_append,← M.encode_one r h0 h1,Lib.byteCells_encodeRune];exact Or.inr h2,Nat.le_trans h.le b1.size⟩,⟨b1,k1⟩⟩
theorem wText_any (B b:Nat) (acc:List UInt8) (w:World) (h:Bd B b acc w) :
  Calls Tryz.prog 25 #[.pointer (some ⟨b,0,none⟩)] w fun e w'=>e=.returned (.string ⟨acc.toArray⟩)∧Below B w w' :=
 (Any.Builder_String_any_k lays169 layX B b acc w h.is h.le).mono fun _ _ ⟨he,_,b1,_⟩=>⟨he,b1⟩
end
section
open Go.RowKit
structure DoBox (w:World) (k:Nat) (d:M.D):Prop where
 box:w.heap[k]?=some (.cells #[.int .i64 d.k,.int .i64 d.p,.int .i64 d.v] 48 (0,0))
theorem DoBox.cells {w:World} {k:Nat} {d:M.D} (h:DoBox w k d):w.cell? ⟨k,0,none⟩=some (.int .i64 d.k)∧w.cell? ⟨k,1,none⟩=some (.int .i64 d.p)∧w.cell? ⟨k,2,none⟩=some (.int .i64 d.v):=by
 refine ⟨?_,?_,?_⟩<;>(rw [Lib.cell_of_heap h.box];rfl)
theorem DoBox.fresh (w:World) (d:M.D):DoBox (w.alloc (.cells #[.int .i64 d.k,.int .i64 d.p,.int .i64 d.v] 48)) w.heap.size d:=⟨heap_alloc_new _ _⟩
theorem DoBox.wrote {w w':World} {k B b:Nat} {d:M.D} (h:DoBox w k d) (hw:Wrote B b w w') (hb:k≠b):DoBox w' k d:=⟨hw.box h.box hb (by decide)⟩
theorem Bd.lt {B b:Nat} {acc:List UInt8} {w:World} (h:Bd B b acc w):b < w.heap.size:=by
 rcases h.is with ⟨_,v,hb,_⟩ | ⟨_,v,hb,_⟩<;>exact (Array.getElem?_eq_some_iff.1 hb).1
set_option maxHeartbeats 400000 in
theorem writeStep_any (B b:Nat) (acc:List UInt8) (d:M.D) (w:World) (h:Bd B b acc w) (hd:M.doOk d=true) (hlen:acc.length≤100000000000) :
  Calls Tryz.prog 33 #[.pointer (some ⟨b,0,none⟩),.agg #[.int .i64 d.k,.int .i64 d.p,.int .i64 d.v]] w fun e w'=>e=.returned (.tuple #[])∧Bd B b (acc++M.say d) w'∧Wrote B b w w':=by
 have hpl:=M.doOk_place hd
 have hvl:=M.doOk_val hd
 have hw5:=M.word_sz d.k
 have hw6:=M.word_le d.k
 have hb0:w.heap.size≠b:=by have:=h.lt;omega
 have h0:=h.alloc (.cells #[.int .i64 d.k,.int .i64 d.p,.int .i64 d.v] 48)
 have x0:=DoBox.fresh w d
 have k0:Wrote B b w (w.alloc (.cells #[.int .i64 d.k,.int .i64 d.p,.int .i64 d.v] 48)):=(Wrote.refl B b w).alloc h.le _
 obtain ⟨k,p,v⟩:=d
 go_enter Tryz.func33,Tryz.ntmps33
 go_wp2_with (go_at_call 60;refine (word_any _ _).mono ?_;rintro e w1 ⟨rfl,rfl⟩)
 refine (wString_any B b acc (M.word k) _ h0 (by omega)).mono ?_
 rintro e w1 ⟨rfl,h1,k1⟩
 have x1:=x0.wrote k1 hb0
 obtain ⟨c0,c1,c2⟩:=x1.cells
 have hfin:∀ {acc':List UInt8} {w2:World},Bd B b acc' w2→Wrote B b w w2→acc'++[M.b8 10]=acc++M.say ⟨k,p,v⟩→acc'.length≤100000000050 →
   Calls Tryz.prog 24 #[.pointer (some ⟨b,0,none⟩),.int .i32 10] w2 fun e w'=>e=.returned (.tuple #[.int .i64 (Lib.runeCells 10).length,.nilIface])∧Bd B b (acc++M.say ⟨k,p,v⟩) w'∧Wrote B b w w' :=
  fun h2 k2 he hl=>(wRune_any B b _ 10 _ h2 (by omega) (by omega) (by omega)).mono fun e w' ⟨e1,h3,k3⟩=>⟨e1,he▸h3,k2.trans k3⟩
 have hk1:=k0.trans k1
 have hl1:(acc++(M.word k).data.toList).length≤100000000010:=by simp only [List.length_append];omega
 cases hu:M.uses k
 ·cases hs:M.stores k
  ·go_wp2_with (first | (go_at_call 59;refine (uses_any _ _).mono ?_;rintro e w2 ⟨rfl,rfl⟩) | (go_at_call 61;refine (stores_any _ _).mono ?_;rintro e w2 ⟨rfl,rfl⟩))
   refine (hfin h1 hk1 (by simp [M.say,hu,hs,M.b8]) (by omega)).mono ?_
   rintro e w2 ⟨rfl,h2,k2⟩
   go_wp2_with fail
   exact bodyPost_end (v:=.tuple #[]) (results_none Tryz.results33 _ _ _) rfl ⟨rfl,h2,k2⟩
  ·exact absurd hu (by simp [M.uses,M.writes,hs])
 ·obtain ⟨hp0,hp1⟩:=hpl hu
  have ep:IntKind.i32.wrap p=p:=IntWalk.i32_in _ (by omega)
  have ep2:IntKind.i32.wrap (120+p)=120+p:=IntWalk.i32_in _ (by omega)
  go_wp2_with (go_at_call 59;refine (uses_any _ _).mono ?_;rintro e w2 ⟨rfl,rfl⟩)
  refine (wRune_any B b _ 32 _ h1 (by omega) (by omega) (by omega)).mono ?_
  rintro e w2 ⟨rfl,h2,k2⟩
  obtain ⟨c0,c1,c2⟩:=(x1.wrote k2 hb0).cells
  go_wp2_with fail
  refine (wRune_any B b _ (120+p) _ h2 (by omega) (by omega) (by simp only [List.length_append,List.length_cons,List.length_nil];omega)).mono ?_
  rintro e w3 ⟨rfl,h3,k3⟩
  have x3:=(x1.wrote k2 hb0).wrote k3 hb0
  have hk3:=(hk1.trans k2).trans k3
  obtain ⟨d0,d1,d2⟩:=x3.cells
  clear c0 c1 c2
  cases hs:M.stores k
  ·go_wp2_with (go_at_call 61;refine (stores_any _ _).mono ?_;rintro e w2 ⟨rfl,rfl⟩)
   refine (hfin h3 hk3 (by simp [M.say,hu,hs,M.b8]) (by simp only [List.length_append,List.length_cons,List.length_nil];omega)).mono ?_
   rintro e w4 ⟨rfl,h4,k4⟩
   go_wp2_with fail
   exact bodyPost_end (v:=.tuple #[]) (results_none Tryz.results33 _ _ _) rfl ⟨rfl,h4,k4⟩
  ·obtain ⟨hv0,hv1⟩:=hvl hs
   have ev:IntKind.i32.wrap v=v:=IntWalk.i32_in _ (by omega)
   have ev2:IntKind.i32.wrap (48+v)=48+v:=IntWalk.i32_in _ (by omega)
   go_wp2_with (go_at_call 61;refine (stores_any _ _).mono ?_;rintro e w2 ⟨rfl,rfl⟩)
   refine (wRune_any B b _ 32 _ h3 (by omega) (by omega) (by simp only [List.length_append,List.length_cons,List.length_nil];omega)).mono ?_
   rintro e w4 ⟨rfl,h4,k4⟩
   obtain ⟨c0,c1,c2⟩:=(x3.wrote k4 hb0).cells
   go_wp2_with fail
   refine (wRune_any B b _ (48+v) _ h4 (by omega) (by omega) (by simp only [List.length_append,List.length_cons,List.length_nil];omega)).mono ?_
   rintro e w5 ⟨rfl,h5,k5⟩
   go_wp2_with fail
   refine (hfin h5 ((hk3.trans k4).trans k5) (by simp [M.say,hu,hs,M.b8]) (by simp only [List.length_append,List.length_cons,List.length_nil];omega)).mono ?_
   rintro e w6 ⟨rfl,h6,k6⟩
   go_wp2_with fail
   exact bodyPost_end (v:=.tuple #[]) (results_none Tryz.results33 _ _ _) rfl ⟨rfl,h6,k6⟩
def M.text (ll:List (List M.D)):List UInt8:=if M.prog ll then M.sayProg ll else []
theorem M.thread_do {t:List M.D} (h:M.thread t=true):∀ d∈t,M.doOk d=true:=by
 simp only [M.thread,M.form,Bool.and_eq_true,List.all_eq_true] at h
 exact h.1.1.2
theorem M.progFrom_thread {ll:List (List M.D)}:∀ {a u:Nat},M.progFrom a u ll=true→∀ t∈ll,M.thread t=true:=by
 induction ll with
 | nil=>intro a u _ t ht;cases ht
 | cons x ll ih =>
  intro a u h t ht
  unfold M.progFrom at h
  split at h
  ·rename_i hx
   rcases List.mem_cons.1 ht with rfl | ht
   ·exact hx
   ·exact ih h t ht
  ·cases h
theorem M.prog_thread {ll:List (List M.D)} (h:M.prog ll=true):ll.length≤3∧∀ t∈ll,M.thread t=true:=by
 simp only [M.prog,Bool.and_eq_true,decide_eq_true_eq] at h
 exact ⟨h.1,M.progFrom_thread h.2⟩
theorem M.sayProg_le (ll:List (List M.D)) (h7:∀ t∈ll,t.length≤7):(M.sayProg ll).length≤77 * ll.length:=by
 induction ll with
 | nil=>simp [M.sayProg]
 | cons t ll ih =>
  have h1:=M.sayThread_le t
  have h2:=h7 t (List.mem_cons_self ..)
  have h3:=ih (fun x hx=>h7 x (List.mem_cons_of_mem _ hx))
  simp only [M.sayProg,List.flatMap_cons,List.length_append,List.length_cons] at *
  omega
theorem box_past {w w1:World} {v:Value} {T:TypeId} {o:Obj} (h:Below (w.alloc (.cells #[v] T)).heap.size (w.alloc (.cells #[v] T)) w1):(w1.alloc o).cell? ⟨w.heap.size,0,none⟩=some v:=by
 have h1:w1.cell? ⟨w.heap.size,0,none⟩=some v:=by rw [h.cell (p:=⟨w.heap.size,0,none⟩) (by simp)];simp
 have h2:w.heap.size < w1.heap.size:=World.block_lt_of_cell? _ _ h1
 rw [((Below.refl w1.heap.size w1).alloc (Nat.le_refl _) o).cell (p:=⟨w.heap.size,0,none⟩) h2]
 exact h1
set_option maxHeartbeats 400000 in
theorem iprogText_any (a:Option Addr) (b o c:Nat) (ll:List (List M.D)) (w:World) (hl:ll.length≤1048576) (hls:∀ t∈ll,t.length≤1048576) (h:DoSS w a b o ll) :
  Calls Tryz.prog 11 #[.agg #[.slice a ll.length c]] w fun e w'=>e=.returned (.string ⟨(M.text ll).toArray⟩)∧Below w.heap.size w w':=by
 cases hp:M.prog ll
 ·go_enter Tryz.func11,Tryz.ntmps11
  go_wp2_with (go_at_call 32;refine (iprog_any a b o c ll _ hl hls (h.below (below1 w _) (Nat.le_refl _))).mono ?_;rintro e w1 ⟨rfl,hb1⟩)
  go_ret
  exact ⟨by simp [M.text,hp],(below1 w _).trans (hb1.mono (by simp))⟩
 ·obtain ⟨h3,hth⟩:=M.prog_thread hp
  have h7:∀ t∈ll,t.length≤7:=fun t ht=>M.thread_le (hth t ht)
  go_enter Tryz.func11,Tryz.ntmps11
  go_wp2_with (go_at_call 32;refine (iprog_any a b o c ll _ hl hls (h.below (below1 w _) (Nat.le_refl _))).mono ?_;rintro e w1 ⟨rfl,hb1⟩;have hcc:(w1.alloc (.cells #[.pointer none,.slice none 0 0] 61)).cell? ⟨w.heap.size,0,none⟩=some (.slice a ll.length c):=box_past hb1)
  have hs1:=(h.below (below1 w _) (Nat.le_refl _)).below hb1 (Nat.le_refl _)
  have hbw:Below w.heap.size w w1:=(below1 w _).trans (hb1.mono (by simp))
  have hbd:=Bd.fresh w1
  clear hb1 hcc h
  go_loopw [14] (fun s14 wr=>∃ n:Nat,s14=.int .i64 n∧n≤ll.length∧Bd w1.heap.size w1.heap.size (M.sayProg (ll.take n)) wr∧Below w1.heap.size w1 wr) (fun s14 _=>ll.length - (intOf s14).toNat)
  case atStart=>exact ⟨0,rfl,Nat.zero_le _,by simpa [M.sayProg] using hbd,below1 _ _⟩
  case round =>
   obtain ⟨n,rfl,hn,hB,hbel⟩:=hrel
   have hlen:(M.sayProg (ll.take n)).length≤300:=by
    have:=M.sayProg_le (ll.take n) (fun t ht=>h7 t (List.mem_of_mem_take ht))
    have h5:=List.length_take_le n ll
    simp only [List.length_take] at this h5
    omega
   by_cases hlt:n < ll.length
   ·obtain ⟨rfl⟩:=hs1.addr (by omega)
    obtain ⟨a',b',o',c',hc,hd⟩:=(hs1.below hbel (Nat.le_refl _)).row n hlt
    have HD:Hid (ll.drop n=ll[n]::ll.drop (n+1)):=M.drop_at' ll n hlt
    obtain ⟨a2,b2,o2,c2,hc2,hd2⟩:=hs1.row n hlt
    have hlt7:=h7 _ (List.getElem_mem hlt)
    have hdo:=M.thread_do (hth _ (List.getElem_mem hlt))
    generalize ll[n]=t at hd hc HD hlt7 hdo hc2 hd2
    obtain ⟨rfl,rfl⟩:a2=a'∧c2=c':=by
     rw [hbel.cell (p:=⟨b,o+n,none⟩) (World.block_lt_of_cell? _ _ hc2)] at hc
     have:=hc2.symm.trans hc
     simp at this
     exact this
    clear hd
    have HN:Hid (M.sayProg (ll.take (n+1))=M.sayProg (ll.take n)++M.sayThread t):=M.sayProg_step HD.out
    clear HD
    generalize M.sayProg (ll.take n)=acc at *
    go_wp2_with (go_at_call 22;refine (wString_any w1.heap.size w1.heap.size acc ⟨#[116,104,114,101,97,100]⟩ _ hB (by simp [ByteArray.size];omega)).mono ?_;rintro e w2 ⟨rfl,h2,k2⟩)
    refine (wRune_any w1.heap.size w1.heap.size _ 10 _ h2 (by omega) (by omega) (by simp;omega)).mono ?_
    rintro e w3 ⟨rfl,h3,k3⟩
    have hb3:=(hbel.trans k2.bel).trans k3.bel
    have h3':Bd w1.heap.size w1.heap.size (acc++[116,104,114,101,97,100,10]) w3:=by simpa [M.b8] using h3
    clear h2 h3 k2 k3 hB hc
    go_wp2_with fail
    go_loopw [22] (fun s22 wi=>∃ k:Nat,s22=.int .i64 k∧k≤t.length∧Bd w1.heap.size w1.heap.size (acc++[116,104,114,101,97,100,10]++M.sayAll (t.take k)) wi∧Below w1.heap.size w1 wi) (fun s22 _=>t.length - (intOf s22).toNat)
    case atStart=>exact ⟨0,rfl,Nat.zero_le _,by simpa [M.sayAll] using h3',hb3⟩
    case round =>
     obtain ⟨k,rfl,hk,hBi,hbi⟩:=hrel
     by_cases hkt:k < t.length
     ·obtain ⟨rfl⟩:=hd2.addr (by omega)
      have hdk:=(hd2.row k hkt).below hbi (Nat.le_refl _)
      have HK:Hid (t.drop k=t[k]::t.drop (k+1)):=M.drop_at t k hkt
      have hok:=hdo _ (List.getElem_mem hkt)
      have hle:=M.sayAll_le (t.take k)
      have hle2:(t.take k).length≤7:=by simp only [List.length_take];omega
      have HM:Hid (M.sayAll (t.take (k+1))=M.sayAll (t.take k)++M.say t[k]):=M.sayAll_step HK.out
      clear HK
      generalize t[k]=d at hdk hok HM
      generalize M.sayAll (t.take k)=acc2 at *
      obtain ⟨kk,p,v⟩:=d
      obtain ⟨ck,cp,cv⟩:=hdk
      go_wp2_with (go_at_call 33;refine (writeStep_any w1.heap.size w1.heap.size _ ⟨kk,p,v⟩ _ (hBi.alloc _) hok (by simp only [List.length_append,List.length_cons,List.length_nil];omega)).mono ?_;rintro e w4 ⟨rfl,h4,k4⟩)
      exact ⟨⟨k+1,by go_num,by omega,by rw [HM.out,← List.append_assoc];exact h4,(hbi.alloc hBi.le _).trans k4.bel⟩,by simp [intOf];omega⟩
     ·go_wp2_with fail
      exact ⟨⟨n+1,by go_num,by omega,by rw [HN.out];rw [List.take_of_length_le (by omega)] at hBi;simpa [M.sayThread] using hBi,hbi⟩,by simp [intOf];omega⟩
   ·go_wp2_with (go_at_call 25;refine (wText_any w1.heap.size w1.heap.size _ _ hB).mono ?_;rintro e w2 ⟨rfl,hb2⟩)
    go_ret
    refine ⟨?_,hbw.trans ((hbel.trans hb2).mono hbw.size)⟩
    rw [List.take_of_length_le (by omega)]
    simp [M.text,hp]
end
section
theorem M.index_at (c:UInt8) (a r:List UInt8) (h:c∉a):Lib.index (a++c::r) [c]=a.length:=by
 induction a with
 | nil=>simp [Lib.index]
 | cons x a ih =>
  have hx:(c==x)=false:=by simp at h ⊢;exact h.1
  have ih':=ih (fun hc=>h (List.mem_cons_of_mem _ hc))
  simp only [List.cons_append,Lib.index,List.isPrefixOf,hx,ih',Bool.false_and]
  have:((a.length:Int)==-1)=false:=by simp
  simp [this]
theorem M.index_no (c:UInt8) (a:List UInt8) (h:c∉a):Lib.index a [c]=-1:=by
 induction a with
 | nil=>simp [Lib.index]
 | cons x a ih =>
  have hx:(c==x)=false:=by simp at h ⊢;exact h.1
  have ih':=ih (fun hc=>h (List.mem_cons_of_mem _ hc))
  simp only [Lib.index,List.isPrefixOf,hx,ih',Bool.false_and]
  simp
theorem M.cut_at (c:UInt8) (a r:List UInt8) (h:c∉a):Lib.cut (a++c::r) [c]=(a,r,true):=by
 have e:=M.index_at c a r h
 unfold Lib.cut
 rw [e,if_pos (by omega)]
 simp
theorem M.cut_no (c:UInt8) (a:List UInt8) (h:c∉a):Lib.cut a [c]=(a,[],false):=by
 have e:=M.index_no c a h
 unfold Lib.cut
 rw [e]
 simp
def M.kindOf (s:List UInt8):Int:=if s=(M.word 1).data.toList then 1 else if s=(M.word 2).data.toList then 2 else if s=(M.word 3).data.toList then 3 else if s=(M.word 4).data.toList then 4 else if s=(M.word 5).data.toList then 5 else if s=(M.word 6).data.toList then 6 else if s=(M.word 7).data.toList then 7 else if s=(M.word 8).data.toList then 8 else if s=(M.word 9).data.toList then 9 else 0
theorem M.kindOf_word (k:Int) (h:1≤k∧k≤9):M.kindOf (M.word k).data.toList=k:=by
 have:k=1∨k=2∨k=3∨k=4∨k=5∨k=6∨k=7∨k=8∨k=9:=by omega
 rcases this with rfl | rfl | rfl | rfl | rfl | rfl | rfl | rfl | rfl<;>decide
def M.runes (s:List UInt8):List Int:=(Conv.runesFrom ⟨s.toArray⟩ s.length 0 #[]).toList.map RowKit.intOf
def M.rdDo (k:Int) (R:List Int):M.D:=⟨k,if M.uses k then (R.head?.map (· - 120)).getD 0 else 0,if M.stores k then (R.getLast?.map (· - 48)).getD 0 else 0⟩
def M.rdStep (line:List UInt8):Option M.D:=if M.kindOf (Lib.cut line [32]).1=0 then none else some (M.rdDo (M.kindOf (Lib.cut line [32]).1) (M.runes (Lib.cut line [32]).2.1))
theorem M.word_no (k:Int) (h:1≤k∧k≤9):(32:UInt8)∉(M.word k).data.toList∧(10:UInt8)∉(M.word k).data.toList∧(M.word k).data.toList≠[116,104,114,101,97,100]:=by
 have:k=1∨k=2∨k=3∨k=4∨k=5∨k=6∨k=7∨k=8∨k=9:=by omega
 rcases this with rfl | rfl | rfl | rfl | rfl | rfl | rfl | rfl | rfl<;>decide
theorem M.runes0:M.runes []=[]:=by decide
theorem M.runes1 (p:Int) (h:0≤p∧p≤2):M.runes [M.b8 (120+p)]=[120+p]:=by
 have:p=0∨p=1∨p=2:=by omega
 rcases this with rfl | rfl | rfl<;>decide
theorem M.runes3 (p v:Int) (h:0≤p∧p≤2) (hv:1≤v∧v≤3):M.runes [M.b8 (120+p),32,M.b8 (48+v)]=[120+p,32,48+v]:=by
 have h1:p=0∨p=1∨p=2:=by omega
 have h2:v=1∨v=2∨v=3:=by omega
 rcases h1 with rfl | rfl | rfl<;>rcases h2 with rfl | rfl | rfl<;>decide
def M.say1 (d:M.D):List UInt8:=(M.word d.k).data.toList++(if M.uses d.k then [32,M.b8 (120+d.p)] else [])++(if M.stores d.k then [32,M.b8 (48+d.v)] else [])
theorem M.say_eq1 (d:M.D):M.say d=M.say1 d++[10]:=rfl
theorem M.doOk_rest {d:M.D} (h:M.doOk d=true):(1≤d.k∧d.k≤9)∧(M.uses d.k=true→0≤d.p∧d.p≤2)∧(M.uses d.k=false→d.p=0)∧(M.stores d.k=true→1≤d.v∧d.v≤3)∧(M.stores d.k=false→d.v=0):=by
 refine ⟨?_,M.doOk_place h,?_,M.doOk_val h,?_⟩
 ·simp only [M.doOk,M.wordOk,Bool.and_eq_true,decide_eq_true_eq] at h
  exact h.1.1
 ·intro hu
  simp [M.doOk,M.placeOk,hu] at h
  exact h.1.2
 ·intro hu
  simp [M.doOk,M.valOk,hu] at h
  exact h.2
theorem M.stores_uses {k:Int} (h:M.stores k=true):M.uses k=true:=by simp [M.uses,M.writes,h]
theorem M.rdStep_say (d:M.D) (h:M.doOk d=true):M.rdStep (M.say1 d)=some d:=by
 obtain ⟨hk,hp,hp0,hv,hv0⟩:=M.doOk_rest h
 obtain ⟨h32,_,_⟩:=M.word_no d.k hk
 have hkk:=M.kindOf_word d.k hk
 have hk0:d.k≠0:=by omega
 obtain ⟨k,p,v⟩:=d
 simp only at hk hp hp0 hv hv0 h32 hkk hk0
 unfold M.say1 M.rdStep
 cases hu:M.uses k
 ·cases hs:M.stores k
  ·simp only [Bool.false_eq_true,if_false,List.append_nil]
   rw [M.cut_no 32 _ h32]
   simp only [hkk,hk0,if_false,M.rdDo,M.runes0,hu,hs,hp0 hu,hv0 hs]
   simp
  ·rw [M.stores_uses hs] at hu
   cases hu
 ·cases hs:M.stores k
  ·simp only [Bool.false_eq_true,if_false,if_true,List.append_nil]
   rw [M.cut_at 32 _ _ h32]
   simp only [hkk,hk0,if_false,M.rdDo,M.runes1 p (hp hu),hu,hs,hv0 hs]
   simp
   omega
  ·simp only [if_true,List.append_assoc,List.cons_append,List.nil_append]
   rw [M.cut_at 32 _ _ h32]
   simp only [hkk,hk0,if_false,M.rdDo,M.runes3 p v (hp hu) (hv hs),hu,hs]
   simp
   omega
theorem M.say1_no (d:M.D) (h:M.doOk d=true):(10:UInt8)∉M.say1 d∧M.say1 d≠[116,104,114,101,97,100]:=by
 obtain ⟨hk,hp,hp0,hv,hv0⟩:=M.doOk_rest h
 obtain ⟨h32,h10,hth⟩:=M.word_no d.k hk
 have hb:∀ p:Int,0≤p∧p≤2→(10:UInt8)≠M.b8 (120+p):=by
  intro p h
  have:p=0∨p=1∨p=2:=by omega
  rcases this with rfl | rfl | rfl<;>decide
 have hc:∀ v:Int,1≤v∧v≤3→(10:UInt8)≠M.b8 (48+v):=by
  intro p h
  have:p=1∨p=2∨p=3:=by omega
  rcases this with rfl | rfl | rfl<;>decide
 constructor
 ·unfold M.say1
  simp only [List.mem_append,not_or]
  refine ⟨⟨h10,?_⟩,?_⟩
  ·cases hu:M.uses d.k
   ·simp
   ·simp;exact hb _ (hp hu)
  ·cases hu:M.stores d.k
   ·simp
   ·simp;exact hc _ (hv hu)
 ·unfold M.say1
  cases hu:M.uses d.k
  ·cases hs:M.stores d.k
   ·simpa using hth
   ·rw [M.stores_uses hs] at hu
    cases hu
  ·intro he
   have:(32:UInt8)∈([116,104,114,101,97,100]:List UInt8):=by rw [← he];simp
   revert this
   decide
def M.addLast:List (List M.D)→M.D→List (List M.D)
 | [],_=>[]
 | [t],d=>[t++[d]]
 | t::l,d=>t::M.addLast l d
theorem M.addLast_app (l:List (List M.D)) (t:List M.D) (d:M.D):M.addLast (l++[t]) d=l++[t++[d]]:=by
 induction l with
 | nil=>rfl
 | cons x l ih =>
  cases l with
  | nil=>rfl
  | cons y l=>exact congrArg (List.cons x) ih
def M.rdLine (acc:List (List M.D)) (line:List UInt8):Option (List (List M.D)) :=
 if line=[116,104,114,101,97,100] then some (acc++[[]]) else match M.rdStep line with
  | none=>none
  | some d=>if acc.isEmpty then none else some (M.addLast acc d)
def M.rdAll:Nat→List (List M.D)→List UInt8→Option (List (List M.D))
 | 0,acc,_=>some acc
 | f+1,acc,s=>if s.isEmpty then some acc else match M.rdLine acc (Lib.cut s [10]).1 with
  | none=>none
  | some acc'=>M.rdAll f acc' (Lib.cut s [10]).2.1
theorem M.rdAll_line (f:Nat) (acc:List (List M.D)) (line r:List UInt8) (h:(10:UInt8)∉line):M.rdAll (f+1) acc (line++10::r)=match M.rdLine acc line with | none=>none | some acc'=>M.rdAll f acc' r:=by
 have e:(line++10::r).isEmpty=false:=by cases line<;>rfl
 simp only [M.rdAll,e,M.cut_at 10 line r h]
 rfl
theorem M.rdAll_steps (t:List M.D):∀ (f:Nat) (acc:List (List M.D)) (t0:List M.D) (r:List UInt8),(∀ d∈t,M.doOk d=true)→M.rdAll (f+t.length) (acc++[t0]) (M.sayAll t++r)=M.rdAll f (acc++[t0++t]) r:=by
 induction t with
 | nil=>intro f acc t0 r _;simp [M.sayAll]
 | cons d t ih =>
  intro f acc t0 r h
  have hd:=h d (List.mem_cons_self ..)
  obtain ⟨h10,hth⟩:=M.say1_no d hd
  have e:M.sayAll (d::t)++r=M.say1 d++10::(M.sayAll t++r):=by simp [M.sayAll,M.say_eq1]
  have e2:f+(d::t).length=(f+t.length)+1:=by simp only [List.length_cons];omega
  have e3:(acc++[t0]).isEmpty=false:=by cases acc<;>rfl
  rw [e,e2,M.rdAll_line _ _ _ _ h10]
  simp only [M.rdLine,hth,if_false,M.rdStep_say d hd,e3,Bool.false_eq_true,M.addLast_app]
  rw [ih f acc (t0++[d]) r (fun x hx=>h x (List.mem_cons_of_mem _ hx))]
  simp
def M.lines (ll:List (List M.D)):Nat:=(ll.map fun t=>t.length+1).sum
theorem M.rdAll_threads (ll:List (List M.D)):∀ (f:Nat) (acc:List (List M.D)) (r:List UInt8),(∀ t∈ll,∀ d∈t,M.doOk d=true)→M.rdAll (f+M.lines ll) acc (M.sayProg ll++r)=M.rdAll f (acc++ll) r:=by
 induction ll with
 | nil=>intro f acc r _;simp [M.sayProg,M.lines]
 | cons t ll ih =>
  intro f acc r h
  have e:M.sayProg (t::ll)++r=[116,104,114,101,97,100]++10::(M.sayAll t++(M.sayProg ll++r)):=by simp [M.sayProg,M.sayThread]
  have e2:f+M.lines (t::ll)=((f+M.lines ll)+t.length)+1:=by simp only [M.lines,List.map_cons,List.sum_cons];omega
  rw [e,e2,M.rdAll_line _ _ _ _ (by decide)]
  simp only [M.rdLine,if_true]
  rw [M.rdAll_steps t _ acc [] _ (h t (List.mem_cons_self ..)),ih f _ r (fun x hx=>h x (List.mem_cons_of_mem _ hx))]
  simp
theorem M.sayAll_ge (t:List M.D):t.length≤(M.sayAll t).length:=by
 induction t with
 | nil=>simp
 | cons d t ih =>
  have:M.sayAll (d::t)=M.say d++M.sayAll t:=by simp [M.sayAll]
  rw [this,M.say_eq1]
  simp only [List.length_append,List.length_cons,List.length_nil]
  omega
theorem M.lines_le (ll:List (List M.D)):M.lines ll≤(M.sayProg ll).length:=by
 induction ll with
 | nil=>simp [M.lines]
 | cons t ll ih =>
  have h1:=M.sayAll_ge t
  have e:M.sayProg (t::ll)=M.sayThread t++M.sayProg ll:=by simp [M.sayProg]
  rw [e]
  simp only [M.lines,List.map_cons,List.sum_cons,List.length_append,M.sayThread,List.length_cons,List.length_nil] at *
  omega
def M.rdText (s:List UInt8):Option (List (List M.D)):=M.rdAll (s.length+1) [] s
theorem M.rdText_back {ll:List (List M.D)} (h:M.prog ll=true):M.rdText (M.sayProg ll)=some ll:=by
 obtain ⟨_,hth⟩:=M.prog_thread h
 have h1:=M.lines_le ll
 obtain ⟨f,hf⟩:∃ f,(M.sayProg ll).length+1=(f+1)+M.lines ll:=⟨(M.sayProg ll).length - M.lines ll,by omega⟩
 have h2:=M.rdAll_threads ll (f+1) [] [] (fun t ht=>M.thread_do (hth t ht))
 rw [List.append_nil,← hf] at h2
 rw [M.rdText,h2]
 rfl
end
end Go.Proofs.YtnddmlgnngdaoaaGreatDoor
