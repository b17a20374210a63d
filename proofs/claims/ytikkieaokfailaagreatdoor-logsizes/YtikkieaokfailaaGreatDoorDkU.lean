/- The disk's calls: New, Append, Sync, Remove, Fuse, Read, Steps, Used. -/
import Derived.Test.YtikkieaokfailaaGreatDoorDkT
namespace Go.Proofs.YtikkieaokfailaaGreatDoor
open Go.RowKit Go.Joins

theorem attempt_D (d f : Nat) (caps : Array Value) (F : Nat → Prop) (k k' : Dk) (en : Nat) (w : World) (hent : ∀ args w, (callFunc f args).run Tryz.prog w = .ok (.enter f args) w) (hD : DiskAt w F d k) (on : k.off = false)
    (hC : DiskAt (w.alloc (.cells #[.int .i64 0] 37)) F d k → Below w.heap.size w (w.alloc (.cells #[.int .i64 0] 37)) → Calls Tryz.prog f caps (w.alloc (.cells #[.int .i64 0] 37)) fun e w' => Gv en e ∧ Dp (w.alloc (.cells #[.int .i64 0] 37)) F d k' w') :
    Calls Tryz.prog 48 #[.pointer (some ⟨d, 0, none⟩), .func (.func f) #[] caps] w fun e w' => e = .returned (.int .i64 en) ∧ Dp w F d k' w' := by
  have hb0 : Below w.heap.size w (w.alloc (.cells #[.int .i64 0] 37)) := (Below.refl _ _).alloc (Nat.le_refl _) _
  have hc4 : w.cell? ⟨d, 4, none⟩ = some (.bool false) := by
    obtain ⟨⟨bm, m, h, _⟩, _⟩ := hD
    rw [h.c4]
    simp [rawK, on]
  refine (attempt_go d f caps en (fun w' => Dp (w.alloc (.cells #[.int .i64 0] 37)) F d k' w') w hent hc4 ((hC (hD.below hb0) hb0).mono ?_)).mono ?_
  · rintro e w' ⟨h1, h2⟩
    refine ⟨h1, h2, ?_⟩
    obtain ⟨F', _, hk, _⟩ := h2
    exact box_keep (alloc_at w _) hk (fun e => by have := hD.lt _ e; omega)
  · rintro e w' ⟨rfl, w1, h1, rfl⟩
    exact ⟨rfl, h1.err hD.lt _⟩
theorem attempt_off (d f : Nat) (caps : Array Value) (F : Nat → Prop) (k : Dk) (w : World) (hD : DiskAt w F d k) (off : k.off = true) :
    Calls Tryz.prog 48 #[.pointer (some ⟨d, 0, none⟩), .func (.func f) #[] caps] w fun e w' => e = .returned (.int .i64 ((13 : Nat) : Int)) ∧ Dp w F d k w' := by
  refine (attempt_down d f caps w ?_).mono ?_
  · obtain ⟨⟨bm, m, h, _⟩, _⟩ := hD
    rw [h.c4]
    simp [rawK, off]
  · rintro e w' ⟨rfl, hb⟩
    exact ⟨rfl, Dp.ofBelow hD hb⟩

theorem gv_no {en : Nat} (h : en ≠ 0) {e : Ending} (he : e = .panicked (gaveUp en)) : Gv en e := Or.inr ⟨h, he⟩

/-- Append's closure, all ways. -/
theorem app_any (bn bb bd d : Nat) (F : Nat → Prop) (k : Dk) (on : k.off = false) (s : Nm) (a : Option Addr) (n c : Nat) (ys : List Int) (hst : k.steps < 1000000) (hfl : k.fs.length < 1000000) (hn9 : n ≤ 1000000000) (W : World) (hDk : DiskAt W F d k)
    (hn : W.heap[bn]? = some (.cells #[.string s] 9 (0, 0))) (hb : W.heap[bb]? = some (.cells #[.slice a n c] 29 (0, 0))) (hd : W.heap[bd]? = some (.cells #[.pointer (some ⟨d, 0, none⟩)] 36 (0, 0))) (hFn : ¬ F bn) (hFd : ¬ F bd) (hR : Rd W a n c ys) :
    Calls Tryz.prog 49 #[.pointer (some ⟨bn, 0, none⟩), .pointer (some ⟨bb, 0, none⟩), .pointer (some ⟨bd, 0, none⟩)] W fun e w' => Gv (appK k s ys).1 e ∧ Dp W F d (appK k s ys).2 w' := by
  unfold appK
  rw [if_neg (by rw [on]; decide), hR.len]
  by_cases h1 : isNm s = false
  · rw [if_pos h1]
    refine (app_name bn bb bd s h1 W hn).mono ?_
    rintro e w' ⟨rfl, hbe⟩
    exact ⟨gv_no (by simp) rfl, Dp.ofBelow hDk hbe⟩
  · rw [if_neg h1]
    have h1' : isNm s = true := by simpa using h1
    by_cases h2 : n + used k.fs ≤ k.room
    · rw [if_neg (not_not_intro h2)]
      exact app_go bn bb bd d F k on s h1' a n c ys h2 hst hfl W hDk hn hb hd hFn hFd hR
    · rw [if_pos h2]
      refine (app_full bn bb bd d F k s h1' a n c h2 hn9 W hDk hn hb hd).mono ?_
      rintro e w' ⟨rfl, hbe⟩
      exact ⟨gv_no (by simp) rfl, Dp.ofBelow hDk hbe⟩

theorem alloc2_at (w : World) (o p : Obj) : ((w.alloc o).alloc p).heap[w.heap.size]? = some o := (Below.heap_alloc _ _ _ (by simp)).trans (alloc_at w o)
theorem alloc3_at (w : World) (o p q : Obj) : (((w.alloc o).alloc p).alloc q).heap[w.heap.size]? = some o := (Below.heap_alloc _ _ _ (by simp; omega)).trans (alloc2_at w o p)

set_option maxHeartbeats 1000000 in
theorem append_any (d : Nat) (F : Nat → Prop) (k : Dk) (s : Nm) (a : Option Addr) (n c : Nat) (ys : List Int) (hst : k.steps < 1000000) (hfl : k.fs.length < 1000000) (hn9 : n ≤ 1000000000) (w : World) (hDk : DiskAt w F d k) (hR : Rd w a n c ys) :
    Calls Tryz.prog 16 #[.pointer (some ⟨d, 0, none⟩), .string s, .slice a n c] w fun e w' => e = .returned (.int .i64 (appK k s ys).1) ∧ Dp w F d (appK k s ys).2 w' := by
  have hmf : ∀ (fn : Fn) (first cap : Array Value) (w : World), (Instr.makeFunc fn first cap).run Tryz.prog w = .ok (.func fn first cap) w := fun _ _ _ _ => rfl
  obtain ⟨W, hW⟩ : ∃ W, ((w.alloc (.cells #[.pointer (some ⟨d, 0, none⟩)] 36)).alloc (.cells #[.string s] 9)).alloc (.cells #[.slice a n c] 29) = W := ⟨_, rfl⟩
  have hB : Below w.heap.size w W := by rw [← hW]; exact (((Below.refl _ _).alloc (Nat.le_refl _) _).alloc (by simp) _).alloc (by simp; omega) _
  have b0 : W.heap[w.heap.size]? = some (.cells #[.pointer (some ⟨d, 0, none⟩)] 36 (0, 0)) := by rw [← hW]; exact alloc3_at w _ _ _
  have b1 : W.heap[w.heap.size + 1]? = some (.cells #[.string s] 9 (0, 0)) := by rw [← hW]; exact (by simpa using alloc2_at (w.alloc (.cells #[.pointer (some ⟨d, 0, none⟩)] 36)) (.cells #[.string s] 9) (.cells #[.slice a n c] 29))
  have b2 : W.heap[w.heap.size + 1 + 1]? = some (.cells #[.slice a n c] 29 (0, 0)) := by rw [← hW]; exact (by simpa using alloc_at ((w.alloc (.cells #[.pointer (some ⟨d, 0, none⟩)] 36)).alloc (.cells #[.string s] 9)) (.cells #[.slice a n c] 29))
  have hDW := hDk.below hB
  have hRW := hR.carry (Nat.le_refl _) hB
  have hlt := hDk.lt
  have hA : Calls Tryz.prog 48 #[.pointer (some ⟨d, 0, none⟩), .func (.func 49) #[] #[.pointer (some ⟨w.heap.size + 1, 0, none⟩), .pointer (some ⟨w.heap.size + 1 + 1, 0, none⟩), .pointer (some ⟨w.heap.size, 0, none⟩)]] W fun e w' => e = .returned (.int .i64 (appK k s ys).1) ∧ Dp W F d (appK k s ys).2 w' := by
    cases on : k.off with
    | true =>
      have e : appK k s ys = (13, k) := by unfold appK; rw [on]; rfl
      rw [e]
      exact attempt_off d _ _ F k W hDW on
    | false =>
      refine attempt_D d _ _ F k _ _ W (enters_of Tryz.func49 (by kernel_rfl) rfl) hDW on (fun hD1 hb1 => ?_)
      exact app_any _ _ _ d F k on s a n c ys hst hfl hn9 _ hD1 (box_below b1 hb1) (box_below b2 hb1) (box_below b0 hb1) (fun h => by have := hlt _ h; omega) (fun h => by have := hlt _ h; omega) (hRW.carry (Nat.le_refl _) hb1)
  have c0 := box_cell b0
  clear hDW hRW
  obtain ⟨P, hP⟩ : ∃ P, appK k s ys = P := ⟨_, rfl⟩
  rw [hP] at hA ⊢
  clear hP
  go_enter Tryz.func16, Tryz.ntmps16
  go_upto_region 1 with fail
  clear hW
  go_wp2_with (first
    | (go_at_call 48; refine hA.mono ?_; rintro e w1 ⟨rfl, hDp⟩))
  go_ret
  exact ⟨rfl, Dp.from hB hDp⟩

end Go.Proofs.YtikkieaokfailaaGreatDoor
