/- The disk's Cut, whole. -/
import Derived.Test.YtikkieaokfailaaGreatDoorDkVc
namespace Go.Proofs.YtikkieaokfailaaGreatDoor
open Go.RowKit Go.Joins

set_option maxHeartbeats 1000000 in
theorem cut_any (d : Nat) (F : Nat → Prop) (k : Dk) (s : Nm) (z : Int) (hst : k.steps < 1000000) (hfl : k.fs.length < 1000000) (w : World) (hDk : DiskAt w F d k) :
    Calls Tryz.prog 156 #[.pointer (some ⟨d, 0, none⟩), .string s, .int .i64 z] w fun e w' => e = .returned (.int .i64 (cutK k s z).1) ∧ Dp w F d (cutK k s z).2 w' := by
  have hmf : ∀ (fn : Fn) (first cap : Array Value) (w : World), (Instr.makeFunc fn first cap).run Tryz.prog w = .ok (.func fn first cap) w := fun _ _ _ _ => rfl
  obtain ⟨W, hW⟩ : ∃ W, ((w.alloc (.cells #[.pointer (some ⟨d, 0, none⟩)] 36)).alloc (.cells #[.string s] 9)).alloc (.cells #[.int .i64 z] 3) = W := ⟨_, rfl⟩
  have hB : Below w.heap.size w W := by rw [← hW]; exact (((Below.refl _ _).alloc (Nat.le_refl _) _).alloc (by simp) _).alloc (by simp; omega) _
  have b0 : W.heap[w.heap.size]? = some (.cells #[.pointer (some ⟨d, 0, none⟩)] 36 (0, 0)) := by rw [← hW]; exact alloc3_at w _ _ _
  have b1 : W.heap[w.heap.size + 1]? = some (.cells #[.string s] 9 (0, 0)) := by rw [← hW]; exact (by simpa using alloc2_at (w.alloc (.cells #[.pointer (some ⟨d, 0, none⟩)] 36)) (.cells #[.string s] 9) (.cells #[.int .i64 z] 3))
  have b2 : W.heap[w.heap.size + 1 + 1]? = some (.cells #[.int .i64 z] 3 (0, 0)) := by rw [← hW]; exact (by simpa using alloc_at ((w.alloc (.cells #[.pointer (some ⟨d, 0, none⟩)] 36)).alloc (.cells #[.string s] 9)) (.cells #[.int .i64 z] 3))
  have hDW := hDk.below hB
  have hlt := hDk.lt
  have hA : Calls Tryz.prog 48 #[.pointer (some ⟨d, 0, none⟩), .func (.func 168) #[] #[.pointer (some ⟨w.heap.size, 0, none⟩), .pointer (some ⟨w.heap.size + 1, 0, none⟩), .pointer (some ⟨w.heap.size + 1 + 1, 0, none⟩)]] W fun e w' => e = .returned (.int .i64 (cutK k s z).1) ∧ Dp W F d (cutK k s z).2 w' := by
    cases on : k.off with
    | true =>
      have e : cutK k s z = (13, k) := by unfold cutK stepK; rw [on]; rfl
      rw [e]
      exact attempt_off d _ _ F k W hDW on
    | false =>
      refine attempt_D d _ _ F k _ _ W (enters_of Tryz.func168 (by kernel_rfl) rfl) hDW on (fun hD1 hb1 => ?_)
      have g0 := box_below b0 hb1
      have g1 := box_below b1 hb1
      have g2 := box_below b2 hb1
      generalize W.alloc (.cells #[.int .i64 0] 37) = V at *
      unfold cutK
      rcases stepK_cases k on s (fun f => if 0 ≤ z ∧ z ≤ f.b.length then 0 else 1) (fun k f => { k with fs := putL k.fs s (cutF f z.toNat) }) with ⟨en, hen, hne, e⟩ | ⟨f, hs, hlk, e⟩
      · rw [e]
        refine (cut_bad _ _ _ d s en _ g0 g1 (find_bad d F k s _ hD1 en hen)).mono ?_
        rintro e w' ⟨rfl, hbe⟩
        exact ⟨gv_no hne rfl, Dp.ofBelow hD1 hbe⟩
      · rw [e]
        by_cases hz : 0 ≤ z ∧ z ≤ (f.b.length : Int)
        · obtain ⟨z', rfl⟩ := Int.eq_ofNat_of_zero_le hz.1
          rw [if_pos hz, if_neg (by simp), Int.toNat_natCast]
          refine (cut_go _ _ _ d F k on s hs f hlk z' (by omega) hst hfl _ hD1 g1 g0 g2 (fun h => by have := hlt _ h; omega) (fun h => by have := hlt _ h; omega) (fun h => by have := hlt _ h; omega)).mono ?_
          rintro e w' (⟨h0, rfl, hDp⟩ | ⟨h0, rfl, hDp⟩)
          · rw [if_pos h0]
            exact ⟨gv_no h0 rfl, hDp⟩
          · rw [if_neg (by simp [h0])]
            exact ⟨Or.inl ⟨rfl, rfl⟩, hDp⟩
        · rw [if_neg hz, if_pos (by simp)]
          refine (cut_arg _ _ _ d F k s hs f hlk z hz _ hD1 g1 g0 g2).mono ?_
          rintro e w' ⟨rfl, hbe⟩
          exact ⟨gv_no (by simp) rfl, Dp.ofBelow hD1 hbe⟩
  have c0 := box_cell b0
  clear hDW
  obtain ⟨P, hP⟩ : ∃ P, cutK k s z = P := ⟨_, rfl⟩
  rw [hP] at hA ⊢
  clear hP
  go_enter Tryz.func156, Tryz.ntmps156
  go_upto_region 1 with fail
  clear hW
  go_wp2_with (first
    | (go_at_call 48; refine hA.mono ?_; rintro e w1 ⟨rfl, hDp⟩))
  go_ret
  exact ⟨rfl, Dp.from hB hDp⟩

end Go.Proofs.YtikkieaokfailaaGreatDoor
