/- impl.OrderHas: what must be ahead of what by itself. Of at most 1048576 threads, steps, numbers and rows. -/
import Derived.Test.YtnddmlgnngdaoaaGreatDoorRows
import Derived.Test.YtnddmlgnngdaoaaGreatDoorQsaz
namespace Go.Proofs.YtnddmlgnngdaoaaGreatDoor
section
open Go.RowKit
theorem Tryz.und3:Tryz.prog.underlying 215=some (.array 3 214):=by kernel_rfl
theorem Tryz.und6:Tryz.prog.underlying 262=some (.array 6 214):=by kernel_rfl
theorem Tryz.undR:∃ d,Tryz.prog.underlying 214=some d∧d.isRow=false:=⟨_,Tryz.underlying214,rfl⟩
theorem Tryz.infR:(Tryz.prog.info? 214).map (·.size)=some 1:=by kernel_rfl
theorem ownPl_any (t:Wx) (a b:Nat) (x y:M.De) (w:World) (hl:t.Ok) (ht:t.At w) (hx:t.ds[a]?=some x) (hy:t.ds[b]?=some y) :
  Calls Tryz.prog 170 #[.agg #[.slice (some ⟨t.g,0,none⟩) t.ds.length t.c,.slice (some ⟨t.fb,t.fo,none⟩) t.l.length t.fc,.slice (some ⟨t.rb,t.ro,none⟩) t.rows.length t.rc],.int .i64 (a:Int),.int .i64 (b:Int)] w fun e w'=>e=.returned (.bool (M.own a b x y&&M.onePl x y))∧Below w.heap.size w w':=by
 have B0:=Wx.Bx.new ht
 have C:=own_any t a b x y _ hl B0.at_ hx hy
 cases ho:M.own a b x y
 ·rw [ho] at C
  go_enter Tryz.func170,Tryz.ntmps170
  go_wp2_with fail
  refine C.mono ?_
  rintro e w1 ⟨rfl,hb1⟩
  go_wp2_with fail
  go_ret
  exact ⟨ret_bool (by simp),(B0.below hb1).bel⟩
 ·rw [ho] at C
  go_enter Tryz.func170,Tryz.ntmps170
  go_wp2_with fail
  refine C.mono ?_
  rintro e w1 ⟨rfl,hb1⟩
  have B1:=B0.below hb1
  have k0:=B1.c0;have k1:=B1.c1;have k2:=B1.c2
  go_wp2_with fail
  refine (onePl_any t a b x y _ hl B1.at_ hx hy).mono ?_
  rintro e w2 ⟨rfl,hb2⟩
  go_wp2_with fail
  go_ret
  exact ⟨ret_bool (by simp),(B1.below hb2).bel⟩
set_option maxHeartbeats 2000000 in
set_option maxRecDepth 100000 in
theorem loose_any (t:Wx) (a b:Nat) (x y:M.De) (w:World) (hl:t.Ok) (ht:t.At w) (hx:t.ds[a]?=some x) (hy:t.ds[b]?=some y) :
  Calls Tryz.prog 176 #[.agg #[.slice (some ⟨t.g,0,none⟩) t.ds.length t.c,.slice (some ⟨t.fb,t.fo,none⟩) t.l.length t.fc,.slice (some ⟨t.rb,t.ro,none⟩) t.rows.length t.rc],.int .i64 (a:Int),.int .i64 (b:Int)] w fun e w'=>e=.returned (.bool (M.loose t.ds a b x y))∧Below w.heap.size w w':=by
 obtain ⟨dR,hd1,hd2⟩:=Tryz.undR
 have B0:=Wx.Bx.new ht
 have C:=own_any t a b x y _ hl B0.at_ hx hy
 cases ho:M.own a b x y
 ·rw [ho] at C
  go_enter Tryz.func176,Tryz.ntmps176
  go_wp2_with fail
  refine C.mono ?_
  rintro e w1 ⟨rfl,hb1⟩
  go_wp2_with fail
  go_ret
  exact ⟨ret_bool (by simp [M.loose,ho]),(B0.below hb1).bel⟩
 ·rw [ho] at C
  go_enter Tryz.func176,Tryz.ntmps176
  go_wp2_with fail
  refine C.mono ?_
  rintro e w1 ⟨rfl,hb1⟩
  have B1:=(B0.below hb1).below (below1 w1 (.cells #[.func (.func 192) #[] #[],.func (.func 193) #[] #[],.func (.func 194) #[] #[],.func (.func 195) #[] #[],.func (.func 196) #[] #[],.func (.func 197) #[] #[]] 262))
  have k0:=B1.c0;have k1:=B1.c1;have k2:=B1.c2
  go_wp2_with fail
  refine wp_loop_rounds 7 ?_
  rw [rounds_succ]
  go_wp2_with (refine wpList_index_one rfl 262 (.tmp 16) (.tmp 17) rfl #[.func (.func 192) #[] #[],.func (.func 193) #[] #[],.func (.func 194) #[] #[],.func (.func 195) #[] #[],.func (.func 196) #[] #[],.func (.func 197) #[] #[]] 0 6 214 dR _ rfl rfl Tryz.und6 (by decide) hd1 hd2 Tryz.infR rfl ?_)
  have C1:=wall_any t a b x y _ hl B1.at_ hx hy
  cases h1:(M.isWall x.d.k||M.isWall y.d.k)
  case true =>
   rw [h1] at C1
   refine C1.mono ?_
   rintro e v1 ⟨rfl,hv1⟩
   go_wp2_with fail
   go_ret
   exact ⟨ret_bool (by simp [M.loose,M.keeps,ho,h1]),(B1.below hv1).bel⟩
  rw [h1] at C1
  refine C1.mono ?_
  rintro e v1 ⟨rfl,hv1⟩
  have D1:=B1.below hv1
  have m01:=D1.c0;have m11:=D1.c1;have m21:=D1.c2
  clear C1
  go_wp2_with fail
  rw [rounds_succ]
  go_wp2_with (refine wpList_index_one rfl 262 (.tmp 16) (.tmp 17) rfl #[.func (.func 192) #[] #[],.func (.func 193) #[] #[],.func (.func 194) #[] #[],.func (.func 195) #[] #[],.func (.func 196) #[] #[],.func (.func 197) #[] #[]] 1 6 214 dR _ rfl rfl Tryz.und6 (by decide) hd1 hd2 Tryz.infR rfl ?_)
  have C2:=takes_any t a b x y _ hl D1.at_ hx hy
  cases h2:(x.d.k==5)
  case true =>
   rw [h2] at C2
   refine C2.mono ?_
   rintro e v2 ⟨rfl,hv2⟩
   go_wp2_with fail
   go_ret
   exact ⟨ret_bool (by simp [M.loose,M.keeps,ho,h1,h2]),(D1.below hv2).bel⟩
  rw [h2] at C2
  refine C2.mono ?_
  rintro e v2 ⟨rfl,hv2⟩
  have D2:=D1.below hv2
  have m02:=D2.c0;have m12:=D2.c1;have m22:=D2.c2
  clear C2
  go_wp2_with fail
  rw [rounds_succ]
  go_wp2_with (refine wpList_index_one rfl 262 (.tmp 16) (.tmp 17) rfl #[.func (.func 192) #[] #[],.func (.func 193) #[] #[],.func (.func 194) #[] #[],.func (.func 195) #[] #[],.func (.func 196) #[] #[],.func (.func 197) #[] #[]] 2 6 214 dR _ rfl rfl Tryz.und6 (by decide) hd1 hd2 Tryz.infR rfl ?_)
  have C3:=gives_any t a b x y _ hl D2.at_ hx hy
  cases h3:(y.d.k==6)
  case true =>
   rw [h3] at C3
   refine C3.mono ?_
   rintro e v3 ⟨rfl,hv3⟩
   go_wp2_with fail
   go_ret
   exact ⟨ret_bool (by simp [M.loose,M.keeps,ho,h1,h2,h3]),(D2.below hv3).bel⟩
  rw [h3] at C3
  refine C3.mono ?_
  rintro e v3 ⟨rfl,hv3⟩
  have D3:=D2.below hv3
  have m03:=D3.c0;have m13:=D3.c1;have m23:=D3.c2
  clear C3
  go_wp2_with fail
  rw [rounds_succ]
  go_wp2_with (refine wpList_index_one rfl 262 (.tmp 16) (.tmp 17) rfl #[.func (.func 192) #[] #[],.func (.func 193) #[] #[],.func (.func 194) #[] #[],.func (.func 195) #[] #[],.func (.func 196) #[] #[],.func (.func 197) #[] #[]] 3 6 214 dR _ rfl rfl Tryz.und6 (by decide) hd1 hd2 Tryz.infR rfl ?_)
  have C4:=goesIn_any t a b x y _ hl D3.at_ hx hy
  cases h4:(M.goesIn t.ds a b x)
  case true =>
   rw [h4] at C4
   refine C4.mono ?_
   rintro e v4 ⟨rfl,hv4⟩
   go_wp2_with fail
   go_ret
   exact ⟨ret_bool (by simp [M.loose,M.keeps,ho,h1,h2,h3,h4]),(D3.below hv4).bel⟩
  rw [h4] at C4
  refine C4.mono ?_
  rintro e v4 ⟨rfl,hv4⟩
  have D4:=D3.below hv4
  have m04:=D4.c0;have m14:=D4.c1;have m24:=D4.c2
  clear C4
  go_wp2_with fail
  rw [rounds_succ]
  go_wp2_with (refine wpList_index_one rfl 262 (.tmp 16) (.tmp 17) rfl #[.func (.func 192) #[] #[],.func (.func 193) #[] #[],.func (.func 194) #[] #[],.func (.func 195) #[] #[],.func (.func 196) #[] #[],.func (.func 197) #[] #[]] 4 6 214 dR _ rfl rfl Tryz.und6 (by decide) hd1 hd2 Tryz.infR rfl ?_)
  have C5:=goesOut_any t a b x y _ hl D4.at_ hx hy
  cases h5:(M.goesOut t.ds a b y)
  case true =>
   rw [h5] at C5
   refine C5.mono ?_
   rintro e v5 ⟨rfl,hv5⟩
   go_wp2_with fail
   go_ret
   exact ⟨ret_bool (by simp [M.loose,M.keeps,ho,h1,h2,h3,h4,h5]),(D4.below hv5).bel⟩
  rw [h5] at C5
  refine C5.mono ?_
  rintro e v5 ⟨rfl,hv5⟩
  have D5:=D4.below hv5
  have m05:=D5.c0;have m15:=D5.c1;have m25:=D5.c2
  clear C5
  go_wp2_with fail
  rw [rounds_succ]
  go_wp2_with (refine wpList_index_one rfl 262 (.tmp 16) (.tmp 17) rfl #[.func (.func 192) #[] #[],.func (.func 193) #[] #[],.func (.func 194) #[] #[],.func (.func 195) #[] #[],.func (.func 196) #[] #[],.func (.func 197) #[] #[]] 5 6 214 dR _ rfl rfl Tryz.und6 (by decide) hd1 hd2 Tryz.infR rfl ?_)
  have C6:=copyOf_any t a b x y _ hl D5.at_ hx hy
  cases h6:(M.copyOf a y)
  case true =>
   rw [h6] at C6
   refine C6.mono ?_
   rintro e v6 ⟨rfl,hv6⟩
   go_wp2_with fail
   go_ret
   exact ⟨ret_bool (by simp [M.loose,M.keeps,ho,h1,h2,h3,h4,h5,h6]),(D5.below hv6).bel⟩
  rw [h6] at C6
  refine C6.mono ?_
  rintro e v6 ⟨rfl,hv6⟩
  have D6:=D5.below hv6
  have m06:=D6.c0;have m16:=D6.c1;have m26:=D6.c2
  clear C6
  go_wp2_with fail
  rw [rounds_succ]
  go_wp2_with fail
  go_ret
  exact ⟨ret_bool (by simp [M.loose,M.keeps,ho,h1,h2,h3,h4,h5,h6]),D6.bel⟩
set_option maxHeartbeats 1000000 in
set_option maxRecDepth 100000 in
theorem must0_any (t:Wx) (a b:Nat) (x y:M.De) (w:World) (hl:t.Ok) (ht:t.At w) (hx:t.ds[a]?=some x) (hy:t.ds[b]?=some y) :
  Calls Tryz.prog 130 #[.agg #[.slice (some ⟨t.g,0,none⟩) t.ds.length t.c,.slice (some ⟨t.fb,t.fo,none⟩) t.l.length t.fc,.slice (some ⟨t.rb,t.ro,none⟩) t.rows.length t.rc],.agg #[.func (.func 170) #[] #[],.func (.func 171) #[] #[],.func (.func 172) #[] #[]],.int .i64 (a:Int),.int .i64 (b:Int)] w fun e w'=>e=.returned (.bool (M.must t.ds t.l t.rows 0 a b x y))∧Below w.heap.size w w':=by
 obtain ⟨dR,hd1,hd2⟩:=Tryz.undR
 have B1:=(Wx.Bx.new ht).below (below1 _ (.cells #[.func (.func 170) #[] #[],.func (.func 171) #[] #[],.func (.func 172) #[] #[]] 215))
 have k0:=B1.c0;have k1:=B1.c1;have k2:=B1.c2
 go_enter Tryz.func130,Tryz.ntmps130
 go_wp2_with fail
 refine wp_loop_rounds 4 ?_
 rw [rounds_succ]
 go_wp2_with (refine wpList_index_one rfl 215 (.tmp 11) (.tmp 12) rfl #[.func (.func 170) #[] #[],.func (.func 171) #[] #[],.func (.func 172) #[] #[]] 0 3 214 dR _ rfl rfl Tryz.und3 (by decide) hd1 hd2 Tryz.infR rfl ?_)
 have C1:=ownPl_any t a b x y _ hl B1.at_ hx hy
 cases h1:(M.own a b x y&&M.onePl x y)
 case true =>
  rw [h1] at C1
  refine C1.mono ?_
  rintro e v1 ⟨rfl,hv1⟩
  go_wp2_with fail
  go_ret
  exact ⟨ret_bool (by simp only [M.must,h1,Bool.true_or]),(B1.below hv1).bel⟩
 rw [h1] at C1
 refine C1.mono ?_
 rintro e v1 ⟨rfl,hv1⟩
 have D1:=B1.below hv1
 have m01:=D1.c0;have m11:=D1.c1;have m21:=D1.c2
 clear C1
 go_wp2_with fail
 rw [rounds_succ]
 go_wp2_with (refine wpList_index_one rfl 215 (.tmp 11) (.tmp 12) rfl #[.func (.func 170) #[] #[],.func (.func 171) #[] #[],.func (.func 172) #[] #[]] 1 3 214 dR _ rfl rfl Tryz.und3 (by decide) hd1 hd2 Tryz.infR rfl ?_)
 have C2:=read_any t a b x y _ hl D1.at_ hx hy
 cases h2:(M.read t.l a b)
 case true =>
  rw [h2] at C2
  refine C2.mono ?_
  rintro e v2 ⟨rfl,hv2⟩
  go_wp2_with fail
  go_ret
  exact ⟨ret_bool (by simp only [M.must,h1,h2,Bool.true_or,Bool.or_true]),(D1.below hv2).bel⟩
 rw [h2] at C2
 refine C2.mono ?_
 rintro e v2 ⟨rfl,hv2⟩
 have D2:=D1.below hv2
 have m02:=D2.c0;have m12:=D2.c1;have m22:=D2.c2
 clear C2
 go_wp2_with fail
 rw [rounds_succ]
 go_wp2_with (refine wpList_index_one rfl 215 (.tmp 11) (.tmp 12) rfl #[.func (.func 170) #[] #[],.func (.func 171) #[] #[],.func (.func 172) #[] #[]] 2 3 214 dR _ rfl rfl Tryz.und3 (by decide) hd1 hd2 Tryz.infR rfl ?_)
 have C3:=over_any t a b x y _ hl D2.at_ hx hy
 cases h3:(M.over t.l t.rows a b x y)
 case true =>
  rw [h3] at C3
  refine C3.mono ?_
  rintro e v3 ⟨rfl,hv3⟩
  go_wp2_with fail
  go_ret
  exact ⟨ret_bool (by simp only [M.must,h1,h2,h3,Bool.or_true]),(D2.below hv3).bel⟩
 rw [h3] at C3
 refine C3.mono ?_
 rintro e v3 ⟨rfl,hv3⟩
 have D3:=D2.below hv3
 have m03:=D3.c0;have m13:=D3.c1;have m23:=D3.c2
 clear C3
 go_wp2_with fail
 rw [rounds_succ]
 go_wp2_with fail
 go_ret
 exact ⟨ret_bool (by simp only [M.must,h1,h2,h3,Bool.or_false]),D3.bel⟩
set_option maxHeartbeats 1000000 in
set_option maxRecDepth 100000 in
theorem must1_any (t:Wx) (a b:Nat) (x y:M.De) (w:World) (hl:t.Ok) (ht:t.At w) (hx:t.ds[a]?=some x) (hy:t.ds[b]?=some y) :
  Calls Tryz.prog 130 #[.agg #[.slice (some ⟨t.g,0,none⟩) t.ds.length t.c,.slice (some ⟨t.fb,t.fo,none⟩) t.l.length t.fc,.slice (some ⟨t.rb,t.ro,none⟩) t.rows.length t.rc],.agg #[.func (.func 173) #[] #[],.func (.func 171) #[] #[],.func (.func 172) #[] #[]],.int .i64 (a:Int),.int .i64 (b:Int)] w fun e w'=>e=.returned (.bool (M.must t.ds t.l t.rows 1 a b x y))∧Below w.heap.size w w':=by
 obtain ⟨dR,hd1,hd2⟩:=Tryz.undR
 have B1:=(Wx.Bx.new ht).below (below1 _ (.cells #[.func (.func 173) #[] #[],.func (.func 171) #[] #[],.func (.func 172) #[] #[]] 215))
 have k0:=B1.c0;have k1:=B1.c1;have k2:=B1.c2
 go_enter Tryz.func130,Tryz.ntmps130
 go_wp2_with fail
 refine wp_loop_rounds 4 ?_
 rw [rounds_succ]
 go_wp2_with (refine wpList_index_one rfl 215 (.tmp 11) (.tmp 12) rfl #[.func (.func 173) #[] #[],.func (.func 171) #[] #[],.func (.func 172) #[] #[]] 0 3 214 dR _ rfl rfl Tryz.und3 (by decide) hd1 hd2 Tryz.infR rfl ?_)
 have C1:=own_any t a b x y _ hl B1.at_ hx hy
 cases h1:(M.own a b x y)
 case true =>
  rw [h1] at C1
  refine C1.mono ?_
  rintro e v1 ⟨rfl,hv1⟩
  go_wp2_with fail
  go_ret
  exact ⟨ret_bool (by simp only [M.must,h1,Bool.true_or]),(B1.below hv1).bel⟩
 rw [h1] at C1
 refine C1.mono ?_
 rintro e v1 ⟨rfl,hv1⟩
 have D1:=B1.below hv1
 have m01:=D1.c0;have m11:=D1.c1;have m21:=D1.c2
 clear C1
 go_wp2_with fail
 rw [rounds_succ]
 go_wp2_with (refine wpList_index_one rfl 215 (.tmp 11) (.tmp 12) rfl #[.func (.func 173) #[] #[],.func (.func 171) #[] #[],.func (.func 172) #[] #[]] 1 3 214 dR _ rfl rfl Tryz.und3 (by decide) hd1 hd2 Tryz.infR rfl ?_)
 have C2:=read_any t a b x y _ hl D1.at_ hx hy
 cases h2:(M.read t.l a b)
 case true =>
  rw [h2] at C2
  refine C2.mono ?_
  rintro e v2 ⟨rfl,hv2⟩
  go_wp2_with fail
  go_ret
  exact ⟨ret_bool (by simp only [M.must,h1,h2,Bool.true_or,Bool.or_true]),(D1.below hv2).bel⟩
 rw [h2] at C2
 refine C2.mono ?_
 rintro e v2 ⟨rfl,hv2⟩
 have D2:=D1.below hv2
 have m02:=D2.c0;have m12:=D2.c1;have m22:=D2.c2
 clear C2
 go_wp2_with fail
 rw [rounds_succ]
 go_wp2_with (refine wpList_index_one rfl 215 (.tmp 11) (.tmp 12) rfl #[.func (.func 173) #[] #[],.func (.func 171) #[] #[],.func (.func 172) #[] #[]] 2 3 214 dR _ rfl rfl Tryz.und3 (by decide) hd1 hd2 Tryz.infR rfl ?_)
 have C3:=over_any t a b x y _ hl D2.at_ hx hy
 cases h3:(M.over t.l t.rows a b x y)
 case true =>
  rw [h3] at C3
  refine C3.mono ?_
  rintro e v3 ⟨rfl,hv3⟩
  go_wp2_with fail
  go_ret
  exact ⟨ret_bool (by simp only [M.must,h1,h2,h3,Bool.or_true]),(D2.below hv3).bel⟩
 rw [h3] at C3
 refine C3.mono ?_
 rintro e v3 ⟨rfl,hv3⟩
 have D3:=D2.below hv3
 have m03:=D3.c0;have m13:=D3.c1;have m23:=D3.c2
 clear C3
 go_wp2_with fail
 rw [rounds_succ]
 go_wp2_with fail
 go_ret
 exact ⟨ret_bool (by simp only [M.must,h1,h2,h3,Bool.or_false]),D3.bel⟩
set_option maxHeartbeats 1000000 in
set_option maxRecDepth 100000 in
theorem must2_any (t:Wx) (a b:Nat) (x y:M.De) (w:World) (hl:t.Ok) (ht:t.At w) (hx:t.ds[a]?=some x) (hy:t.ds[b]?=some y) :
  Calls Tryz.prog 130 #[.agg #[.slice (some ⟨t.g,0,none⟩) t.ds.length t.c,.slice (some ⟨t.fb,t.fo,none⟩) t.l.length t.fc,.slice (some ⟨t.rb,t.ro,none⟩) t.rows.length t.rc],.agg #[.func (.func 174) #[] #[],.func (.func 175) #[] #[],.func (.func 172) #[] #[]],.int .i64 (a:Int),.int .i64 (b:Int)] w fun e w'=>e=.returned (.bool (M.must t.ds t.l t.rows 2 a b x y))∧Below w.heap.size w w':=by
 obtain ⟨dR,hd1,hd2⟩:=Tryz.undR
 have B1:=(Wx.Bx.new ht).below (below1 _ (.cells #[.func (.func 174) #[] #[],.func (.func 175) #[] #[],.func (.func 172) #[] #[]] 215))
 have k0:=B1.c0;have k1:=B1.c1;have k2:=B1.c2
 go_enter Tryz.func130,Tryz.ntmps130
 go_wp2_with fail
 refine wp_loop_rounds 4 ?_
 rw [rounds_succ]
 go_wp2_with (refine wpList_index_one rfl 215 (.tmp 11) (.tmp 12) rfl #[.func (.func 174) #[] #[],.func (.func 175) #[] #[],.func (.func 172) #[] #[]] 0 3 214 dR _ rfl rfl Tryz.und3 (by decide) hd1 hd2 Tryz.infR rfl ?_)
 have C1:=late_any t a b x y _ hl B1.at_ hx hy
 cases h1:(M.late a b x y)
 case true =>
  rw [h1] at C1
  refine C1.mono ?_
  rintro e v1 ⟨rfl,hv1⟩
  go_wp2_with fail
  go_ret
  exact ⟨ret_bool (by simp only [M.must,h1,Bool.true_or]),(B1.below hv1).bel⟩
 rw [h1] at C1
 refine C1.mono ?_
 rintro e v1 ⟨rfl,hv1⟩
 have D1:=B1.below hv1
 have m01:=D1.c0;have m11:=D1.c1;have m21:=D1.c2
 clear C1
 go_wp2_with fail
 rw [rounds_succ]
 go_wp2_with (refine wpList_index_one rfl 215 (.tmp 11) (.tmp 12) rfl #[.func (.func 174) #[] #[],.func (.func 175) #[] #[],.func (.func 172) #[] #[]] 1 3 214 dR _ rfl rfl Tryz.und3 (by decide) hd1 hd2 Tryz.infR rfl ?_)
 have C2:=readTwo_any t a b x y _ hl D1.at_ hx hy
 cases h2:(M.two x y&&M.read t.l a b)
 case true =>
  rw [h2] at C2
  refine C2.mono ?_
  rintro e v2 ⟨rfl,hv2⟩
  go_wp2_with fail
  go_ret
  exact ⟨ret_bool (by simp only [M.must,h1,h2,Bool.true_or,Bool.or_true]),(D1.below hv2).bel⟩
 rw [h2] at C2
 refine C2.mono ?_
 rintro e v2 ⟨rfl,hv2⟩
 have D2:=D1.below hv2
 have m02:=D2.c0;have m12:=D2.c1;have m22:=D2.c2
 clear C2
 go_wp2_with fail
 rw [rounds_succ]
 go_wp2_with (refine wpList_index_one rfl 215 (.tmp 11) (.tmp 12) rfl #[.func (.func 174) #[] #[],.func (.func 175) #[] #[],.func (.func 172) #[] #[]] 2 3 214 dR _ rfl rfl Tryz.und3 (by decide) hd1 hd2 Tryz.infR rfl ?_)
 have C3:=over_any t a b x y _ hl D2.at_ hx hy
 cases h3:(M.over t.l t.rows a b x y)
 case true =>
  rw [h3] at C3
  refine C3.mono ?_
  rintro e v3 ⟨rfl,hv3⟩
  go_wp2_with fail
  go_ret
  exact ⟨ret_bool (by simp only [M.must,h1,h2,h3,Bool.or_true]),(D2.below hv3).bel⟩
 rw [h3] at C3
 refine C3.mono ?_
 rintro e v3 ⟨rfl,hv3⟩
 have D3:=D2.below hv3
 have m03:=D3.c0;have m13:=D3.c1;have m23:=D3.c2
 clear C3
 go_wp2_with fail
 rw [rounds_succ]
 go_wp2_with fail
 go_ret
 exact ⟨ret_bool (by simp only [M.must,h1,h2,h3,Bool.or_false]),D3.bel⟩
set_option maxHeartbeats 1000000 in
set_option maxRecDepth 100000 in
theorem must3_any (t:Wx) (a b:Nat) (x y:M.De) (w:World) (hl:t.Ok) (ht:t.At w) (hx:t.ds[a]?=some x) (hy:t.ds[b]?=some y) :
  Calls Tryz.prog 130 #[.agg #[.slice (some ⟨t.g,0,none⟩) t.ds.length t.c,.slice (some ⟨t.fb,t.fo,none⟩) t.l.length t.fc,.slice (some ⟨t.rb,t.ro,none⟩) t.rows.length t.rc],.agg #[.func (.func 176) #[] #[],.func (.func 175) #[] #[],.func (.func 177) #[] #[]],.int .i64 (a:Int),.int .i64 (b:Int)] w fun e w'=>e=.returned (.bool (M.must t.ds t.l t.rows 3 a b x y))∧Below w.heap.size w w':=by
 obtain ⟨dR,hd1,hd2⟩:=Tryz.undR
 have B1:=(Wx.Bx.new ht).below (below1 _ (.cells #[.func (.func 176) #[] #[],.func (.func 175) #[] #[],.func (.func 177) #[] #[]] 215))
 have k0:=B1.c0;have k1:=B1.c1;have k2:=B1.c2
 go_enter Tryz.func130,Tryz.ntmps130
 go_wp2_with fail
 refine wp_loop_rounds 4 ?_
 rw [rounds_succ]
 go_wp2_with (refine wpList_index_one rfl 215 (.tmp 11) (.tmp 12) rfl #[.func (.func 176) #[] #[],.func (.func 175) #[] #[],.func (.func 177) #[] #[]] 0 3 214 dR _ rfl rfl Tryz.und3 (by decide) hd1 hd2 Tryz.infR rfl ?_)
 have C1:=loose_any t a b x y _ hl B1.at_ hx hy
 cases h1:(M.loose t.ds a b x y)
 case true =>
  rw [h1] at C1
  refine C1.mono ?_
  rintro e v1 ⟨rfl,hv1⟩
  go_wp2_with fail
  go_ret
  exact ⟨ret_bool (by simp only [M.must,h1,Bool.true_or]),(B1.below hv1).bel⟩
 rw [h1] at C1
 refine C1.mono ?_
 rintro e v1 ⟨rfl,hv1⟩
 have D1:=B1.below hv1
 have m01:=D1.c0;have m11:=D1.c1;have m21:=D1.c2
 clear C1
 go_wp2_with fail
 rw [rounds_succ]
 go_wp2_with (refine wpList_index_one rfl 215 (.tmp 11) (.tmp 12) rfl #[.func (.func 176) #[] #[],.func (.func 175) #[] #[],.func (.func 177) #[] #[]] 1 3 214 dR _ rfl rfl Tryz.und3 (by decide) hd1 hd2 Tryz.infR rfl ?_)
 have C2:=readTwo_any t a b x y _ hl D1.at_ hx hy
 cases h2:(M.two x y&&M.read t.l a b)
 case true =>
  rw [h2] at C2
  refine C2.mono ?_
  rintro e v2 ⟨rfl,hv2⟩
  go_wp2_with fail
  go_ret
  exact ⟨ret_bool (by simp only [M.must,h1,h2,Bool.true_or,Bool.or_true]),(D1.below hv2).bel⟩
 rw [h2] at C2
 refine C2.mono ?_
 rintro e v2 ⟨rfl,hv2⟩
 have D2:=D1.below hv2
 have m02:=D2.c0;have m12:=D2.c1;have m22:=D2.c2
 clear C2
 go_wp2_with fail
 rw [rounds_succ]
 go_wp2_with (refine wpList_index_one rfl 215 (.tmp 11) (.tmp 12) rfl #[.func (.func 176) #[] #[],.func (.func 175) #[] #[],.func (.func 177) #[] #[]] 2 3 214 dR _ rfl rfl Tryz.und3 (by decide) hd1 hd2 Tryz.infR rfl ?_)
 have C3:=overTwo_any t a b x y _ hl D2.at_ hx hy
 cases h3:(M.two x y&&M.over t.l t.rows a b x y)
 case true =>
  rw [h3] at C3
  refine C3.mono ?_
  rintro e v3 ⟨rfl,hv3⟩
  go_wp2_with fail
  go_ret
  exact ⟨ret_bool (by simp only [M.must,h1,h2,h3,Bool.or_true]),(D2.below hv3).bel⟩
 rw [h3] at C3
 refine C3.mono ?_
 rintro e v3 ⟨rfl,hv3⟩
 have D3:=D2.below hv3
 have m03:=D3.c0;have m13:=D3.c1;have m23:=D3.c2
 clear C3
 go_wp2_with fail
 rw [rounds_succ]
 go_wp2_with fail
 go_ret
 exact ⟨ret_bool (by simp only [M.must,h1,h2,h3,Bool.or_false]),D3.bel⟩
end
end Go.Proofs.YtnddmlgnngdaoaaGreatDoor
