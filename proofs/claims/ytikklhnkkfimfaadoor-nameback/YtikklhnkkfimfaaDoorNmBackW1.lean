/- NameBack: its ways (1 of 4). -/
import Derived.Test.YtikklhnkkfimfaaDoorNmBackW
namespace Go.Proofs.YtikklhnkkfimfaaDoor
open Go.RowKit

set_option maxHeartbeats 6400000 in
set_option maxRecDepth 100000 in
theorem back_oooo (x s : ByteArray) (jl jh jr : List UInt8) (a : List UInt8) (c : List UInt8) (t kl kh : List UInt8) (pl ph pr u : List UInt8) (w : World) (hT : Lib.Utf8Tabs 0 1 w) (cS : ∀ W, Calls Tryd.prog 8 #[.string x, .int .i64 300] W fun e W' => e = .returned (.string s) ∧ W' = W) (cW : ∀ W, Lib.Utf8Tabs 0 1 W → Calls Tryd.prog 15 #[] W fun e W' => e = .returned (.bool true) ∧ Below W.heap.size W W')
    (cL1 : Gives 9 #[.string s] (.tuple #[.string ⟨a.toArray⟩, .int .i64 0]))
    (cL2 : Gives 9 #[.string ⟨a.toArray⟩] (.tuple #[.string ⟨a.toArray⟩, .int .i64 0]))
    (_a1 : ((a.length : Int) == 0) = false) (_a2 : (a.length : Int) ≤ 64)
    (cH1 : Gives 11 #[.string s] (.tuple #[.string ⟨c.toArray⟩, .int .i64 0]))
    (cH2 : Gives 11 #[.string ⟨c.toArray⟩] (.tuple #[.string ⟨c.toArray⟩, .int .i64 0]))
    (cT1 : Gives 18 #[.agg #[.string ⟨jl.toArray⟩, .string ⟨jh.toArray⟩, .string ⟨jr.toArray⟩]] (.tuple #[.string ⟨t.toArray⟩, .int .i64 0]))
    (cP1 : Gives 16 #[.string ⟨t.toArray⟩] (.tuple #[.agg #[.string ⟨kl.toArray⟩, .string ⟨kh.toArray⟩, .string ⟨jr.toArray⟩], .int .i64 0]))
    (cT2 : Gives 18 #[.agg #[.string ⟨kl.toArray⟩, .string ⟨kh.toArray⟩, .string ⟨jr.toArray⟩]] (.tuple #[.string ⟨t.toArray⟩, .int .i64 0]))
    (_kl : kl.isEmpty = jl.isEmpty)
    (cP2 : Gives 16 #[.string s] (.tuple #[.agg #[.string ⟨pl.toArray⟩, .string ⟨ph.toArray⟩, .string ⟨pr.toArray⟩], .int .i64 0]))
    (cT3 : Gives 18 #[.agg #[.string ⟨pl.toArray⟩, .string ⟨ph.toArray⟩, .string ⟨pr.toArray⟩]] (.tuple #[.string ⟨u.toArray⟩, .int .i64 0]))
    (cP3 : Gives 16 #[.string ⟨u.toArray⟩] (.tuple #[.agg #[.string ⟨pl.toArray⟩, .string ⟨ph.toArray⟩, .string ⟨pr.toArray⟩], .int .i64 0])) :
    Calls Tryd.prog 5 #[.string x, .agg #[.string ⟨jl.toArray⟩, .string ⟨jh.toArray⟩, .string ⟨jr.toArray⟩]] w fun e w' => e = .returned (.bool true) ∧ Below w.heap.size w w' := by
  have hJ0 := JAt.new w (.string ⟨jl.toArray⟩) (.string ⟨jh.toArray⟩) (.string ⟨jr.toArray⟩)
  have b0 := below_new w (.cells #[.string ⟨jl.toArray⟩, .string ⟨jh.toArray⟩, .string ⟨jr.toArray⟩] 31)
  have tL : True := trivial
  have tH : True := trivial
  have tT : True := trivial
  have tT2 : True := trivial
  have tP : True := trivial
  have tP2 : True := trivial
  go_enter Tryd.func5, Tryd.ntmps5
  go_wp2_with (first
    | (go_at_call 8; refine (cS _).mono ?_; rintro e w1 ⟨rfl, rfl⟩)
    | (go_at_call 9; clear tL; refine (cL1 _ (tabs_below hT b0)).mono ?_; rintro e w2 ⟨rfl, hb2⟩; have b2 := b0.trans (hb2.mono b0.size); have hJ2 := hJ0.call hb2)
    | (go_at_call 9; refine (cL2 _ (tabs_below hT b2)).mono ?_; rintro e w3 ⟨rfl, hb3⟩; have b3 := b2.trans (hb3.mono b2.size); have hJ3 := hJ2.call hb3)
    | (go_at_call 11; clear tH; refine (cH1 _ (tabs_below hT b3)).mono ?_; rintro e w4 ⟨rfl, hb4⟩; have b4 := b3.trans (hb4.mono b3.size); have hJ4 := hJ3.call hb4)
    | (go_at_call 11; refine (cH2 _ (tabs_below hT b4)).mono ?_; rintro e w5 ⟨rfl, hb5⟩; have b5 := b4.trans (hb5.mono b4.size); have hJ5 := hJ4.call hb5; have c0 := cell_three0 hJ5; have c1 := cell_three1 hJ5; have c2 := cell_three2 hJ5)
    | (go_at_call 18; clear tT; refine (cT1 _ (tabs_below hT b5)).mono ?_; rintro e w6 ⟨rfl, hb6⟩; have b6 := b5.trans (hb6.mono b5.size); have hJ6 := hJ5.call hb6)
    | (go_at_call 16; clear tP; refine (cP1 _ (tabs_below hT b6)).mono ?_; rintro e w7 ⟨rfl, hb7⟩; have b7 := (b6.trans (hb7.mono b6.size)).alloc (b6.trans (hb7.mono b6.size)).size (.cells #[.string ⟨kl.toArray⟩, .string ⟨kh.toArray⟩, .string ⟨jr.toArray⟩] 31); have hJ7 := (hJ6.call hb7).call (below_new w7 (.cells #[.string ⟨kl.toArray⟩, .string ⟨kh.toArray⟩, .string ⟨jr.toArray⟩] 31)); have hK7 := JAt.new w7 (.string ⟨kl.toArray⟩) (.string ⟨kh.toArray⟩) (.string ⟨jr.toArray⟩); have hg7 : w.heap.size ≤ w7.heap.size := (b6.trans (hb7.mono b6.size)).size; have d0 := cell_three0 hJ7; have d1 := cell_three1 hJ7; have d2 := cell_three2 hJ7)
    | (go_at_call 18; clear tT2; refine (cT2 _ (tabs_below hT b7)).mono ?_; rintro e w8 ⟨rfl, hb8⟩; have b8 := b7.trans (hb8.mono b7.size); have hJ8 := hJ7.call hb8; have hK8 := hK7.call hb8; have f0 := cell_three0 hJ8; have f1 := cell_three1 hJ8; have f2 := cell_three2 hJ8; have g0 := cell_three0 hK8; have g1 := cell_three1 hK8; have g2 := cell_three2 hK8)
    | (go_at_call 16; clear tP2; refine (cP2 _ (tabs_below hT b8)).mono ?_; rintro e w9 ⟨rfl, hb9⟩; have b9x := b8.trans (hb9.mono b8.size); have hK9x := hK8.call hb9; have p0 := cell_three0 hK9x; have p1 := cell_three1 hK9x; have p2 := cell_three2 hK9x; have q0 := thaw_three hK9x 0; have q1 := thaw_three hK9x 1; have q2 := thaw_three hK9x 2; have hK9 := hK9x.put (.string ⟨pl.toArray⟩) (.string ⟨ph.toArray⟩) (.string ⟨pr.toArray⟩); have b9 := below_put b9x hg7 (.string ⟨pl.toArray⟩) (.string ⟨ph.toArray⟩) (.string ⟨pr.toArray⟩))
    | (go_at_call 18; refine (cT3 _ (tabs_below hT b9)).mono ?_; rintro e w10 ⟨rfl, hb10⟩; have b10 := b9.trans (hb10.mono b9.size); have hK10 := hK9.call hb10)
    | (go_at_call 16; refine (cP3 _ (tabs_below hT b10)).mono ?_; rintro e w11 ⟨rfl, hb11⟩; have b11 := (b10.trans (hb11.mono b10.size)).alloc (b10.trans (hb11.mono b10.size)).size (.cells #[.string ⟨pl.toArray⟩, .string ⟨ph.toArray⟩, .string ⟨pr.toArray⟩] 31); have hK11 := (hK10.call hb11).call (below_new w11 (.cells #[.string ⟨pl.toArray⟩, .string ⟨ph.toArray⟩, .string ⟨pr.toArray⟩] 31)); have hM11 := JAt.new w11 (.string ⟨pl.toArray⟩) (.string ⟨ph.toArray⟩) (.string ⟨pr.toArray⟩); have r0 := cell_three0 hK11; have r1 := cell_three1 hK11; have r2 := cell_three2 hK11; have v0 := cell_three0 hM11; have v1 := cell_three1 hM11; have v2 := cell_three2 hM11)
    | (go_at_call 15; refine (cW _ (tabs_below hT b11)).mono ?_; rintro e w12 ⟨rfl, hb12⟩))
  go_ret
  exact ⟨rfl, b11.trans (hb12.mono b11.size)⟩

set_option maxHeartbeats 6400000 in
set_option maxRecDepth 100000 in
theorem back_oooe (x s : ByteArray) (jl jh jr : List UInt8) (a : List UInt8) (c : List UInt8) (t kl kh : List UInt8) (r1 : Nat) (w : World) (hT : Lib.Utf8Tabs 0 1 w) (cS : ∀ W, Calls Tryd.prog 8 #[.string x, .int .i64 300] W fun e W' => e = .returned (.string s) ∧ W' = W) (cW : ∀ W, Lib.Utf8Tabs 0 1 W → Calls Tryd.prog 15 #[] W fun e W' => e = .returned (.bool true) ∧ Below W.heap.size W W')
    (cL1 : Gives 9 #[.string s] (.tuple #[.string ⟨a.toArray⟩, .int .i64 0]))
    (cL2 : Gives 9 #[.string ⟨a.toArray⟩] (.tuple #[.string ⟨a.toArray⟩, .int .i64 0]))
    (_a1 : ((a.length : Int) == 0) = false) (_a2 : (a.length : Int) ≤ 64)
    (cH1 : Gives 11 #[.string s] (.tuple #[.string ⟨c.toArray⟩, .int .i64 0]))
    (cH2 : Gives 11 #[.string ⟨c.toArray⟩] (.tuple #[.string ⟨c.toArray⟩, .int .i64 0]))
    (cT1 : Gives 18 #[.agg #[.string ⟨jl.toArray⟩, .string ⟨jh.toArray⟩, .string ⟨jr.toArray⟩]] (.tuple #[.string ⟨t.toArray⟩, .int .i64 0]))
    (cP1 : Gives 16 #[.string ⟨t.toArray⟩] (.tuple #[.agg #[.string ⟨kl.toArray⟩, .string ⟨kh.toArray⟩, .string ⟨jr.toArray⟩], .int .i64 0]))
    (cT2 : Gives 18 #[.agg #[.string ⟨kl.toArray⟩, .string ⟨kh.toArray⟩, .string ⟨jr.toArray⟩]] (.tuple #[.string ⟨t.toArray⟩, .int .i64 0]))
    (_kl : kl.isEmpty = jl.isEmpty)
    (cP2 : Gives 16 #[.string s] (.tuple #[.agg #[noS, noS, noS], .int .i64 r1]))
    (_e4 : ((r1 : Int) == 0) = false) :
    Calls Tryd.prog 5 #[.string x, .agg #[.string ⟨jl.toArray⟩, .string ⟨jh.toArray⟩, .string ⟨jr.toArray⟩]] w fun e w' => e = .returned (.bool true) ∧ Below w.heap.size w w' := by
  have hJ0 := JAt.new w (.string ⟨jl.toArray⟩) (.string ⟨jh.toArray⟩) (.string ⟨jr.toArray⟩)
  have b0 := below_new w (.cells #[.string ⟨jl.toArray⟩, .string ⟨jh.toArray⟩, .string ⟨jr.toArray⟩] 31)
  have tL : True := trivial
  have tH : True := trivial
  have tT : True := trivial
  have tT2 : True := trivial
  have tP : True := trivial
  have tP2 : True := trivial
  go_enter Tryd.func5, Tryd.ntmps5
  go_wp2_with (first
    | (go_at_call 8; refine (cS _).mono ?_; rintro e w1 ⟨rfl, rfl⟩)
    | (go_at_call 9; clear tL; refine (cL1 _ (tabs_below hT b0)).mono ?_; rintro e w2 ⟨rfl, hb2⟩; have b2 := b0.trans (hb2.mono b0.size); have hJ2 := hJ0.call hb2)
    | (go_at_call 9; refine (cL2 _ (tabs_below hT b2)).mono ?_; rintro e w3 ⟨rfl, hb3⟩; have b3 := b2.trans (hb3.mono b2.size); have hJ3 := hJ2.call hb3)
    | (go_at_call 11; clear tH; refine (cH1 _ (tabs_below hT b3)).mono ?_; rintro e w4 ⟨rfl, hb4⟩; have b4 := b3.trans (hb4.mono b3.size); have hJ4 := hJ3.call hb4)
    | (go_at_call 11; refine (cH2 _ (tabs_below hT b4)).mono ?_; rintro e w5 ⟨rfl, hb5⟩; have b5 := b4.trans (hb5.mono b4.size); have hJ5 := hJ4.call hb5; have c0 := cell_three0 hJ5; have c1 := cell_three1 hJ5; have c2 := cell_three2 hJ5)
    | (go_at_call 18; clear tT; refine (cT1 _ (tabs_below hT b5)).mono ?_; rintro e w6 ⟨rfl, hb6⟩; have b6 := b5.trans (hb6.mono b5.size); have hJ6 := hJ5.call hb6)
    | (go_at_call 16; clear tP; refine (cP1 _ (tabs_below hT b6)).mono ?_; rintro e w7 ⟨rfl, hb7⟩; have b7 := (b6.trans (hb7.mono b6.size)).alloc (b6.trans (hb7.mono b6.size)).size (.cells #[.string ⟨kl.toArray⟩, .string ⟨kh.toArray⟩, .string ⟨jr.toArray⟩] 31); have hJ7 := (hJ6.call hb7).call (below_new w7 (.cells #[.string ⟨kl.toArray⟩, .string ⟨kh.toArray⟩, .string ⟨jr.toArray⟩] 31)); have hK7 := JAt.new w7 (.string ⟨kl.toArray⟩) (.string ⟨kh.toArray⟩) (.string ⟨jr.toArray⟩); have hg7 : w.heap.size ≤ w7.heap.size := (b6.trans (hb7.mono b6.size)).size; have d0 := cell_three0 hJ7; have d1 := cell_three1 hJ7; have d2 := cell_three2 hJ7)
    | (go_at_call 18; clear tT2; refine (cT2 _ (tabs_below hT b7)).mono ?_; rintro e w8 ⟨rfl, hb8⟩; have b8 := b7.trans (hb8.mono b7.size); have hJ8 := hJ7.call hb8; have hK8 := hK7.call hb8; have f0 := cell_three0 hJ8; have f1 := cell_three1 hJ8; have f2 := cell_three2 hJ8; have g0 := cell_three0 hK8; have g1 := cell_three1 hK8; have g2 := cell_three2 hK8)
    | (go_at_call 16; clear tP2; refine (cP2 _ (tabs_below hT b8)).mono ?_; rintro e w9 ⟨rfl, hb9⟩; have b9x := b8.trans (hb9.mono b8.size); have hK9x := hK8.call hb9; have p0 := cell_three0 hK9x; have p1 := cell_three1 hK9x; have p2 := cell_three2 hK9x; have q0 := thaw_three hK9x 0; have q1 := thaw_three hK9x 1; have q2 := thaw_three hK9x 2; have hK9 := hK9x.put (noS) (noS) (noS); have b9 := below_put b9x hg7 (noS) (noS) (noS))
    | (go_at_call 15; refine (cW _ (tabs_below hT b9)).mono ?_; rintro e w12 ⟨rfl, hb12⟩))
  go_ret
  exact ⟨rfl, b9.trans (hb12.mono b9.size)⟩

set_option maxHeartbeats 6400000 in
set_option maxRecDepth 100000 in
theorem back_ooeo (x s : ByteArray) (jl jh jr : List UInt8) (a : List UInt8) (c : List UInt8) (kl kh kr : List UInt8) (q1 q2 : Nat) (pl ph pr u : List UInt8) (w : World) (hT : Lib.Utf8Tabs 0 1 w) (cS : ∀ W, Calls Tryd.prog 8 #[.string x, .int .i64 300] W fun e W' => e = .returned (.string s) ∧ W' = W) (cW : ∀ W, Lib.Utf8Tabs 0 1 W → Calls Tryd.prog 15 #[] W fun e W' => e = .returned (.bool true) ∧ Below W.heap.size W W')
    (cL1 : Gives 9 #[.string s] (.tuple #[.string ⟨a.toArray⟩, .int .i64 0]))
    (cL2 : Gives 9 #[.string ⟨a.toArray⟩] (.tuple #[.string ⟨a.toArray⟩, .int .i64 0]))
    (_a1 : ((a.length : Int) == 0) = false) (_a2 : (a.length : Int) ≤ 64)
    (cH1 : Gives 11 #[.string s] (.tuple #[.string ⟨c.toArray⟩, .int .i64 0]))
    (cH2 : Gives 11 #[.string ⟨c.toArray⟩] (.tuple #[.string ⟨c.toArray⟩, .int .i64 0]))
    (cT1 : Gives 18 #[.agg #[.string ⟨jl.toArray⟩, .string ⟨jh.toArray⟩, .string ⟨jr.toArray⟩]] (.tuple #[noS, .int .i64 q1]))
    (cP1 : Gives 16 #[noS] (.tuple #[.agg #[.string ⟨kl.toArray⟩, .string ⟨kh.toArray⟩, .string ⟨kr.toArray⟩], .int .i64 q2]))
    (_e3 : ((q1 : Int) == 0) = false)
    (cP2 : Gives 16 #[.string s] (.tuple #[.agg #[.string ⟨pl.toArray⟩, .string ⟨ph.toArray⟩, .string ⟨pr.toArray⟩], .int .i64 0]))
    (cT3 : Gives 18 #[.agg #[.string ⟨pl.toArray⟩, .string ⟨ph.toArray⟩, .string ⟨pr.toArray⟩]] (.tuple #[.string ⟨u.toArray⟩, .int .i64 0]))
    (cP3 : Gives 16 #[.string ⟨u.toArray⟩] (.tuple #[.agg #[.string ⟨pl.toArray⟩, .string ⟨ph.toArray⟩, .string ⟨pr.toArray⟩], .int .i64 0])) :
    Calls Tryd.prog 5 #[.string x, .agg #[.string ⟨jl.toArray⟩, .string ⟨jh.toArray⟩, .string ⟨jr.toArray⟩]] w fun e w' => e = .returned (.bool true) ∧ Below w.heap.size w w' := by
  have hJ0 := JAt.new w (.string ⟨jl.toArray⟩) (.string ⟨jh.toArray⟩) (.string ⟨jr.toArray⟩)
  have b0 := below_new w (.cells #[.string ⟨jl.toArray⟩, .string ⟨jh.toArray⟩, .string ⟨jr.toArray⟩] 31)
  have tL : True := trivial
  have tH : True := trivial
  have tT : True := trivial
  have tT2 : True := trivial
  have tP : True := trivial
  have tP2 : True := trivial
  go_enter Tryd.func5, Tryd.ntmps5
  go_wp2_with (first
    | (go_at_call 8; refine (cS _).mono ?_; rintro e w1 ⟨rfl, rfl⟩)
    | (go_at_call 9; clear tL; refine (cL1 _ (tabs_below hT b0)).mono ?_; rintro e w2 ⟨rfl, hb2⟩; have b2 := b0.trans (hb2.mono b0.size); have hJ2 := hJ0.call hb2)
    | (go_at_call 9; refine (cL2 _ (tabs_below hT b2)).mono ?_; rintro e w3 ⟨rfl, hb3⟩; have b3 := b2.trans (hb3.mono b2.size); have hJ3 := hJ2.call hb3)
    | (go_at_call 11; clear tH; refine (cH1 _ (tabs_below hT b3)).mono ?_; rintro e w4 ⟨rfl, hb4⟩; have b4 := b3.trans (hb4.mono b3.size); have hJ4 := hJ3.call hb4)
    | (go_at_call 11; refine (cH2 _ (tabs_below hT b4)).mono ?_; rintro e w5 ⟨rfl, hb5⟩; have b5 := b4.trans (hb5.mono b4.size); have hJ5 := hJ4.call hb5; have c0 := cell_three0 hJ5; have c1 := cell_three1 hJ5; have c2 := cell_three2 hJ5)
    | (go_at_call 18; clear tT; refine (cT1 _ (tabs_below hT b5)).mono ?_; rintro e w6 ⟨rfl, hb6⟩; have b6 := b5.trans (hb6.mono b5.size); have hJ6 := hJ5.call hb6)
    | (go_at_call 16; clear tP; refine (cP1 _ (tabs_below hT b6)).mono ?_; rintro e w7 ⟨rfl, hb7⟩; have b7 := (b6.trans (hb7.mono b6.size)).alloc (b6.trans (hb7.mono b6.size)).size (.cells #[.string ⟨kl.toArray⟩, .string ⟨kh.toArray⟩, .string ⟨kr.toArray⟩] 31); have hJ7 := (hJ6.call hb7).call (below_new w7 (.cells #[.string ⟨kl.toArray⟩, .string ⟨kh.toArray⟩, .string ⟨kr.toArray⟩] 31)); have hK7 := JAt.new w7 (.string ⟨kl.toArray⟩) (.string ⟨kh.toArray⟩) (.string ⟨kr.toArray⟩); have hg7 : w.heap.size ≤ w7.heap.size := (b6.trans (hb7.mono b6.size)).size; have d0 := cell_three0 hJ7; have d1 := cell_three1 hJ7; have d2 := cell_three2 hJ7)
    | (go_at_call 16; clear tP2; refine (cP2 _ (tabs_below hT b7)).mono ?_; rintro e w9 ⟨rfl, hb9⟩; have b9x := b7.trans (hb9.mono b7.size); have hK9x := hK7.call hb9; have p0 := cell_three0 hK9x; have p1 := cell_three1 hK9x; have p2 := cell_three2 hK9x; have q0 := thaw_three hK9x 0; have q1 := thaw_three hK9x 1; have q2 := thaw_three hK9x 2; have hK9 := hK9x.put (.string ⟨pl.toArray⟩) (.string ⟨ph.toArray⟩) (.string ⟨pr.toArray⟩); have b9 := below_put b9x hg7 (.string ⟨pl.toArray⟩) (.string ⟨ph.toArray⟩) (.string ⟨pr.toArray⟩))
    | (go_at_call 18; refine (cT3 _ (tabs_below hT b9)).mono ?_; rintro e w10 ⟨rfl, hb10⟩; have b10 := b9.trans (hb10.mono b9.size); have hK10 := hK9.call hb10)
    | (go_at_call 16; refine (cP3 _ (tabs_below hT b10)).mono ?_; rintro e w11 ⟨rfl, hb11⟩; have b11 := (b10.trans (hb11.mono b10.size)).alloc (b10.trans (hb11.mono b10.size)).size (.cells #[.string ⟨pl.toArray⟩, .string ⟨ph.toArray⟩, .string ⟨pr.toArray⟩] 31); have hK11 := (hK10.call hb11).call (below_new w11 (.cells #[.string ⟨pl.toArray⟩, .string ⟨ph.toArray⟩, .string ⟨pr.toArray⟩] 31)); have hM11 := JAt.new w11 (.string ⟨pl.toArray⟩) (.string ⟨ph.toArray⟩) (.string ⟨pr.toArray⟩); have r0 := cell_three0 hK11; have r1 := cell_three1 hK11; have r2 := cell_three2 hK11; have v0 := cell_three0 hM11; have v1 := cell_three1 hM11; have v2 := cell_three2 hM11)
    | (go_at_call 15; refine (cW _ (tabs_below hT b11)).mono ?_; rintro e w12 ⟨rfl, hb12⟩))
  go_ret
  exact ⟨rfl, b11.trans (hb12.mono b11.size)⟩

set_option maxHeartbeats 6400000 in
set_option maxRecDepth 100000 in
theorem back_ooee (x s : ByteArray) (jl jh jr : List UInt8) (a : List UInt8) (c : List UInt8) (kl kh kr : List UInt8) (q1 q2 : Nat) (r1 : Nat) (w : World) (hT : Lib.Utf8Tabs 0 1 w) (cS : ∀ W, Calls Tryd.prog 8 #[.string x, .int .i64 300] W fun e W' => e = .returned (.string s) ∧ W' = W) (cW : ∀ W, Lib.Utf8Tabs 0 1 W → Calls Tryd.prog 15 #[] W fun e W' => e = .returned (.bool true) ∧ Below W.heap.size W W')
    (cL1 : Gives 9 #[.string s] (.tuple #[.string ⟨a.toArray⟩, .int .i64 0]))
    (cL2 : Gives 9 #[.string ⟨a.toArray⟩] (.tuple #[.string ⟨a.toArray⟩, .int .i64 0]))
    (_a1 : ((a.length : Int) == 0) = false) (_a2 : (a.length : Int) ≤ 64)
    (cH1 : Gives 11 #[.string s] (.tuple #[.string ⟨c.toArray⟩, .int .i64 0]))
    (cH2 : Gives 11 #[.string ⟨c.toArray⟩] (.tuple #[.string ⟨c.toArray⟩, .int .i64 0]))
    (cT1 : Gives 18 #[.agg #[.string ⟨jl.toArray⟩, .string ⟨jh.toArray⟩, .string ⟨jr.toArray⟩]] (.tuple #[noS, .int .i64 q1]))
    (cP1 : Gives 16 #[noS] (.tuple #[.agg #[.string ⟨kl.toArray⟩, .string ⟨kh.toArray⟩, .string ⟨kr.toArray⟩], .int .i64 q2]))
    (_e3 : ((q1 : Int) == 0) = false)
    (cP2 : Gives 16 #[.string s] (.tuple #[.agg #[noS, noS, noS], .int .i64 r1]))
    (_e4 : ((r1 : Int) == 0) = false) :
    Calls Tryd.prog 5 #[.string x, .agg #[.string ⟨jl.toArray⟩, .string ⟨jh.toArray⟩, .string ⟨jr.toArray⟩]] w fun e w' => e = .returned (.bool true) ∧ Below w.heap.size w w' := by
  have hJ0 := JAt.new w (.string ⟨jl.toArray⟩) (.string ⟨jh.toArray⟩) (.string ⟨jr.toArray⟩)
  have b0 := below_new w (.cells #[.string ⟨jl.toArray⟩, .string ⟨jh.toArray⟩, .string ⟨jr.toArray⟩] 31)
  have tL : True := trivial
  have tH : True := trivial
  have tT : True := trivial
  have tT2 : True := trivial
  have tP : True := trivial
  have tP2 : True := trivial
  go_enter Tryd.func5, Tryd.ntmps5
  go_wp2_with (first
    | (go_at_call 8; refine (cS _).mono ?_; rintro e w1 ⟨rfl, rfl⟩)
    | (go_at_call 9; clear tL; refine (cL1 _ (tabs_below hT b0)).mono ?_; rintro e w2 ⟨rfl, hb2⟩; have b2 := b0.trans (hb2.mono b0.size); have hJ2 := hJ0.call hb2)
    | (go_at_call 9; refine (cL2 _ (tabs_below hT b2)).mono ?_; rintro e w3 ⟨rfl, hb3⟩; have b3 := b2.trans (hb3.mono b2.size); have hJ3 := hJ2.call hb3)
    | (go_at_call 11; clear tH; refine (cH1 _ (tabs_below hT b3)).mono ?_; rintro e w4 ⟨rfl, hb4⟩; have b4 := b3.trans (hb4.mono b3.size); have hJ4 := hJ3.call hb4)
    | (go_at_call 11; refine (cH2 _ (tabs_below hT b4)).mono ?_; rintro e w5 ⟨rfl, hb5⟩; have b5 := b4.trans (hb5.mono b4.size); have hJ5 := hJ4.call hb5; have c0 := cell_three0 hJ5; have c1 := cell_three1 hJ5; have c2 := cell_three2 hJ5)
    | (go_at_call 18; clear tT; refine (cT1 _ (tabs_below hT b5)).mono ?_; rintro e w6 ⟨rfl, hb6⟩; have b6 := b5.trans (hb6.mono b5.size); have hJ6 := hJ5.call hb6)
    | (go_at_call 16; clear tP; refine (cP1 _ (tabs_below hT b6)).mono ?_; rintro e w7 ⟨rfl, hb7⟩; have b7 := (b6.trans (hb7.mono b6.size)).alloc (b6.trans (hb7.mono b6.size)).size (.cells #[.string ⟨kl.toArray⟩, .string ⟨kh.toArray⟩, .string ⟨kr.toArray⟩] 31); have hJ7 := (hJ6.call hb7).call (below_new w7 (.cells #[.string ⟨kl.toArray⟩, .string ⟨kh.toArray⟩, .string ⟨kr.toArray⟩] 31)); have hK7 := JAt.new w7 (.string ⟨kl.toArray⟩) (.string ⟨kh.toArray⟩) (.string ⟨kr.toArray⟩); have hg7 : w.heap.size ≤ w7.heap.size := (b6.trans (hb7.mono b6.size)).size; have d0 := cell_three0 hJ7; have d1 := cell_three1 hJ7; have d2 := cell_three2 hJ7)
    | (go_at_call 16; clear tP2; refine (cP2 _ (tabs_below hT b7)).mono ?_; rintro e w9 ⟨rfl, hb9⟩; have b9x := b7.trans (hb9.mono b7.size); have hK9x := hK7.call hb9; have p0 := cell_three0 hK9x; have p1 := cell_three1 hK9x; have p2 := cell_three2 hK9x; have q0 := thaw_three hK9x 0; have q1 := thaw_three hK9x 1; have q2 := thaw_three hK9x 2; have hK9 := hK9x.put (noS) (noS) (noS); have b9 := below_put b9x hg7 (noS) (noS) (noS))
    | (go_at_call 15; refine (cW _ (tabs_below hT b9)).mono ?_; rintro e w12 ⟨rfl, hb12⟩))
  go_ret
  exact ⟨rfl, b9.trans (hb12.mono b9.size)⟩
end Go.Proofs.YtikklhnkkfimfaaDoor
