/- meter: Take. -/
import Derived.Test.YtmlkeobmkjdefaaMtC
namespace Go.Proofs.Ytmlkeobmkjdefaa
open Go.RowKit

/-- What a Take that is not refused ahead has looked at. -/
def Bk.seen (b : Bk) (now : Nat) : Bk := if flt b.t now then ⟨b.r, b.s, b.lvl now, now⟩ else b
def Bk.less (b : Bk) (cost : Nat) : Bk := ⟨b.r, b.s, (Ieee.double.sub b.l cost).getD 0, b.t⟩
/-- What Take answers, and what it leaves. -/
def Bk.tk (b : Bk) (now cost : Nat) : Int × Bk :=
  if chk b.s now cost ≠ 0 then (chk b.s now cost, b) else if flt (b.seen now).l cost then (19, b.seen now) else (0, (b.seen now).less cost)

theorem seen_ok {b : Bk} (hb : b.Ok) {now : Nat} (hn : now < 2 ^ 64) (nn : Fl.nan now = false) : (b.seen now).Ok := by
  unfold Bk.seen
  split
  · exact ⟨hb.ra, hb.r64, hb.sb, lvl_le hb now, nn, hn⟩
  · exact hb

theorem sub_amt {l cost : Nat} (hl : l < Fl.inf) (h64 : cost < 2 ^ 64) (ha : amt cost = true) (h : flt l cost = false) : ∃ d, Ieee.double.sub l cost = some d ∧ d ≤ l := by
  rcases cost_le hl h64 ha h with g | g
  · refine ⟨_, Fl.sub_pos hl g, ?_⟩
    have := Fl.rnd_mono (show Fl.vl l - Fl.vl cost ≤ Fl.vl l from Nat.sub_le _ _)
    rw [Fl.rnd_vl (Nat.le_of_lt hl)] at this
    exact this
  · subst g
    refine ⟨l, ?_, Nat.le_refl _⟩
    obtain ⟨n1, r1⟩ := Fl.pos_parts (Nat.le_of_lt hl)
    have e1 := Fl.read_fin Fl.sgn (by decide)
    have e2 : Fl.neg Fl.sgn = true := by decide
    have e3 : Fl.rung Fl.sgn = 0 := by decide
    rw [e2, e3] at e1
    unfold Ieee.Format.sub
    rw [Fl.read_fin l (by rw [r1]; exact hl), n1, r1, e1]
    unfold Ieee.Datum.opposite
    dsimp only
    rw [show (!true) = false from rfl]
    have hz : ((Fl.val l : Nat) : Int) = (if false then -((Fl.mag l * 2 ^ Fl.ex l : Nat) : Int) else ((Fl.mag l * 2 ^ Fl.ex l : Nat) : Int)) + (if false then -((Fl.mag 0 * 2 ^ Fl.ex 0 : Nat) : Int) else ((Fl.mag 0 * 2 ^ Fl.ex 0 : Nat) : Int)) := by
      rw [if_neg (by decide), if_neg (by decide)]
      have : Fl.mag 0 * 2 ^ Fl.ex 0 = 0 := Fl.val_zero
      rw [this]
      unfold Fl.val
      simp
    rw [Fl.sum_write false false _ _ _ _ _ hz (by omega) rfl, Int.toNat_natCast]
    exact congrArg some (Fl.rnd_vl (Nat.le_of_lt hl))

theorem less_ok {b : Bk} (hb : b.Ok) {cost : Nat} (h64 : cost < 2 ^ 64) (ha : amt cost = true) (h : flt b.l cost = false) : (b.less cost).Ok := by
  obtain ⟨d, e, hd⟩ := sub_amt (Nat.lt_of_le_of_lt hb.ls hb.sb) h64 ha h
  have e2 : b.less cost = ⟨b.r, b.s, d, b.t⟩ := by unfold Bk.less; rw [e]; rfl
  rw [e2]
  exact ⟨hb.ra, hb.r64, hb.sb, Nat.le_trans hd hb.ls, hb.tn, hb.t64⟩

theorem tk_ok {b : Bk} (hb : b.Ok) {now cost : Nat} (hn : now < 2 ^ 64) (hc : cost < 2 ^ 64) : (b.tk now cost).2.Ok := by
  unfold Bk.tk
  by_cases g : chk b.s now cost = 0
  · rw [if_neg (by rw [g]; simp)]
    obtain ⟨g1, g2, g3, g4⟩ := chk_zero g
    have h1 := seen_ok hb hn g1
    cases g5 : flt (b.seen now).l cost with
    | true => exact h1
    | false => exact less_ok h1 hc g3 g5
  · rw [if_pos g]; exact hb

theorem tk_same (b : Bk) (now cost : Nat) : (b.tk now cost).2.r = b.r ∧ (b.tk now cost).2.s = b.s := by
  unfold Bk.tk Bk.less Bk.seen
  split
  · exact ⟨rfl, rfl⟩
  · split <;> split <;> exact ⟨rfl, rfl⟩

theorem run_store_float (w : World) (a : Addr) (m : Mode) (x : Nat) : (store a (.float .f64 x) m).run Try.prog w = stored Try.prog w a (.float .f64 x) m := run_store Try.prog w a _ m rfl

theorem Keep.drewN {S : Nat → Prop} {a b : World} (h : Keep S a b) (n : Nat) : Keep S a (b.drewN n) := ⟨h.os, h.tape, h.output, h.size, h.block⟩

set_option maxRecDepth 100000 in
set_option maxHeartbeats 2000000 in
theorem take_any (p : Nat) (b : Bk) (hb : b.Ok) (now cost : Nat) (hn : now < 2 ^ 64) (hc : cost < 2 ^ 64) (w : World) (hB : BkAt w p b) :
    Calls Try.prog 17 #[.pointer (some ⟨p, 0, none⟩), .float .f64 now, .float .f64 cost] w fun e w' => e = .returned (.int .i64 (b.tk now cost).1) ∧ BkAt w' p (b.tk now cost).2 ∧ Keep (fun k => k = p) w w' := by
  have iC := fun w h => check_any p b now cost hn w h
  have iL := fun w h => level_any p b hb now hn w h
  have hsf := run_store_float
  by_cases g1 : chk b.s now cost = 0
  · rw [g1] at iC
    obtain ⟨c1, c2, c3, c4⟩ := chk_zero g1
    have hgt := f64_gt now b.t
    cases g2 : flt b.t now with
    | true =>
      have hs : b.seen now = ⟨b.r, b.s, b.lvl now, now⟩ := by unfold Bk.seen; rw [g2]; rfl
      have hgl := f64_gt cost (b.lvl now)
      cases g3 : flt (b.lvl now) cost with
      | true =>
        have HE : Hid (b.tk now cost = (19, ⟨b.r, b.s, b.lvl now, now⟩)) := by unfold Hid Bk.tk; rw [if_neg (by rw [g1]; simp), hs]; show (if flt (b.lvl now) cost = true then _ else _) = _; rw [g3]; rfl
        rw [g2] at hgt
        rw [g3] at hgl
        clear g1 hs c1 c2 c3 c4
        generalize b.lvl now = L at *
        have h3 := hB.c3
        go_enter Try.func17, Try.ntmps17
        go_wp2_with (first
          | (go_at_call 25; refine (iC _ hB).mono ?_; clear iC; rintro e w1 ⟨rfl, rfl⟩)
          | (go_at_call 13; refine (iL _ hB).mono ?_; clear iL; rintro e w1 ⟨rfl, k, rfl⟩; have hB1 := hB.drewN k; have h4 := hB1.c2; have z4 := hB1.fz 2; have h5 := (hB1.setL L).c3; have z5 := (hB1.setL L).fz 3; have h6 := ((hB1.setL L).setT now).c2; have z6 := ((hB1.setL L).setT now).fz 2))
        go_ret
        refine ⟨by rw [HE.out]; rfl, ?_, ?_⟩
        · rw [HE.out]; exact (hB1.setL L).setT now
        · exact ((((Keep.refl (fun i => i = p) _).drewN k).setCell (p := ⟨p, 2, none⟩) rfl _).setCell (p := ⟨p, 3, none⟩) rfl _)
      | false =>
        obtain ⟨d, e1, hd⟩ := sub_amt (l := b.lvl now) (Nat.lt_of_le_of_lt (lvl_le hb now) hb.sb) hc c3 g3
        have HE : Hid (b.tk now cost = (0, ⟨b.r, b.s, d, now⟩)) := by unfold Hid Bk.tk; rw [if_neg (by rw [g1]; simp), hs]; show (if flt (b.lvl now) cost = true then _ else _) = _; rw [g3]; unfold Bk.less; show (_, (⟨b.r, b.s, (Ieee.double.sub (b.lvl now) cost).getD 0, now⟩ : Bk)) = _; rw [e1]; rfl
        have f1 : ∀ w : World, (binOp .sub 24 (.float .f64 (b.lvl now)) (.float .f64 cost)).run Try.prog w = .ok (.float .f64 d) w := fun w => run_float_arith w .sub 24 .f64 _ _ d e1
        rw [g2] at hgt
        rw [g3] at hgl
        clear g1 hs c1 c2 c3 c4 e1
        generalize b.lvl now = L at *
        have h3 := hB.c3
        go_enter Try.func17, Try.ntmps17
        go_wp2_with (first
          | (go_at_call 25; refine (iC _ hB).mono ?_; clear iC; rintro e w1 ⟨rfl, rfl⟩)
          | (go_at_call 13; refine (iL _ hB).mono ?_; clear iL; rintro e w1 ⟨rfl, k, rfl⟩; have hB1 := hB.drewN k; have h4 := hB1.c2; have z4 := hB1.fz 2; have h5 := (hB1.setL L).c3; have z5 := (hB1.setL L).fz 3; have h6 := ((hB1.setL L).setT now).c2; have z6 := ((hB1.setL L).setT now).fz 2))
        go_ret
        refine ⟨by rw [HE.out]; rfl, ?_, ?_⟩
        · rw [HE.out]; exact ((hB1.setL L).setT now).setL d
        · exact (((((Keep.refl (fun i => i = p) _).drewN k).setCell (p := ⟨p, 2, none⟩) rfl _).setCell (p := ⟨p, 3, none⟩) rfl _).setCell (p := ⟨p, 2, none⟩) rfl _)
    | false =>
      have hs : b.seen now = b := by unfold Bk.seen; rw [g2]; rfl
      have hgl := f64_gt cost b.l
      cases g3 : flt b.l cost with
      | true =>
        have HE : Hid (b.tk now cost = (19, b)) := by unfold Hid Bk.tk; rw [if_neg (by rw [g1]; simp), hs, g3]; rfl
        rw [g2] at hgt
        rw [g3] at hgl
        clear g1 hs c1 c2 c3 c4
        have h3 := hB.c3
        have h2 := hB.c2
        have z2 := hB.fz 2
        go_enter Try.func17, Try.ntmps17
        go_wp2_with (first
          | (go_at_call 25; refine (iC _ hB).mono ?_; clear iC; rintro e w1 ⟨rfl, rfl⟩))
        go_ret
        exact ⟨by rw [HE.out]; rfl, by rw [HE.out]; exact hB, Keep.refl _ _⟩
      | false =>
        obtain ⟨d, e1, hd⟩ := sub_amt (Nat.lt_of_le_of_lt hb.ls hb.sb) hc c3 g3
        have HE : Hid (b.tk now cost = (0, ⟨b.r, b.s, d, b.t⟩)) := by unfold Hid Bk.tk; rw [if_neg (by rw [g1]; simp), hs, g3]; unfold Bk.less; rw [e1]; rfl
        have f1 : ∀ w : World, (binOp .sub 24 (.float .f64 b.l) (.float .f64 cost)).run Try.prog w = .ok (.float .f64 d) w := fun w => run_float_arith w .sub 24 .f64 _ _ d e1
        rw [g2] at hgt
        rw [g3] at hgl
        clear g1 hs c1 c2 c3 c4 e1
        have h3 := hB.c3
        have h2 := hB.c2
        have z2 := hB.fz 2
        go_enter Try.func17, Try.ntmps17
        go_wp2_with (first
          | (go_at_call 25; refine (iC _ hB).mono ?_; clear iC; rintro e w1 ⟨rfl, rfl⟩))
        go_ret
        refine ⟨by rw [HE.out]; rfl, ?_, ?_⟩
        · rw [HE.out]; exact hB.setL d
        · exact ((Keep.refl (fun i => i = p) _).setCell (p := ⟨p, 2, none⟩) rfl _)
  · have HE : Hid (b.tk now cost = (chk b.s now cost, b)) := by unfold Hid Bk.tk; rw [if_pos g1]
    have hz : (chk b.s now cost != 0) = true := by simpa using g1
    generalize chk b.s now cost = C at *
    clear g1
    go_enter Try.func17, Try.ntmps17
    go_wp2_with (first
      | (go_at_call 25; refine (iC _ hB).mono ?_; clear iC; rintro e w1 ⟨rfl, rfl⟩))
    go_ret
    exact ⟨by rw [HE.out]; rfl, by rw [HE.out]; exact hB, Keep.refl _ _⟩

end Go.Proofs.Ytmlkeobmkjdefaa
