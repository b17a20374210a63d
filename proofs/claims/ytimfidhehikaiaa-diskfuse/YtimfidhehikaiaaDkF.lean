/- DiskFuse: the law's walk. -/
import Derived.Test.YtimfidhehikaiaaDkY
namespace Go.Proofs.Ytimfidhehikaiaa
open Go.RowKit

def sF : Nm := ⟨#[102]⟩
def sN : Nm := ⟨#[110, 111, 110, 101]⟩
def sB : Nm := ⟨#[65]⟩
theorem nmF : isNm sF = true := by kernel_rfl
theorem nmN : isNm sN = true := by kernel_rfl
theorem nmB : isNm sB = false := by kernel_rfl

/-- A disk with a fuse of n, behind i steps. -/
structure FuSt (k : Dk) (n i : Nat) : Prop where
  xroom : k.room = 100000
  xsteps : k.steps = i
  xon : k.off = false
  xfu : k.fu = some (n - i)
  xused : used k.fs ≤ 100 * i
  xnone : look k.fs sN = none
  xlen : k.fs.length ≤ i
  xrise : Rise k.fs

theorem FuSt.sync {k : Dk} {n i : Nat} (h : FuSt k n i) : syncK k sN = (7, k) := by
  unfold syncK stepK
  rw [h.xon, nmN, h.xnone]
  rfl
theorem FuSt.bad {k : Dk} {n i : Nat} (h : FuSt k n i) (ys : List Int) : appK k sB ys = (4, k) := by
  unfold appK
  rw [h.xon, nmB]
  rfl
theorem FuSt.app {k : Dk} {n i : Nat} (h : FuSt k n i) (ys : List Int) (hy : ys.length ≤ 100) (hi : i < 40) :
    appK k sF ys = passK { k with fs := putL k.fs sF ⟨((look k.fs sF).map Fle.b).getD [] ++ ys, ((look k.fs sF).map Fle.safe).getD 0⟩ } := by
  unfold appK
  have h1 := h.xused
  have h2 := h.xroom
  rw [h.xon, nmF, if_neg (by decide), if_neg (by decide), if_neg (not_not_intro (by omega))]
theorem FuSt.more {k : Dk} {n i : Nat} (h : FuSt k n i) (ys : List Int) (hy : ys.length ≤ 100) (hi : i < 40) (hn : i < n) : (appK k sF ys).1 = 0 ∧ FuSt (appK k sF ys).2 n (i + 1) := by
  rw [h.app ys hy hi]
  unfold passK
  obtain ⟨j, hj⟩ : ∃ j, n - i = j + 1 := ⟨n - i - 1, by omega⟩
  have hu := used_put k.fs h.xrise sF ⟨((look k.fs sF).map Fle.b).getD [] ++ ys, ((look k.fs sF).map Fle.safe).getD 0⟩
  have hl : (((look k.fs sF).map Fle.b).getD [] ++ ys).length = lenO (look k.fs sF) + ys.length := by
    rw [List.length_append]
    cases look k.fs sF <;> rfl
  rw [hl] at hu
  have h1 := h.xused
  have hp := len_put k.fs sF ⟨((look k.fs sF).map Fle.b).getD [] ++ ys, ((look k.fs sF).map Fle.safe).getD 0⟩
  have h3 := h.xlen
  dsimp only
  rw [h.xfu, hj]
  refine ⟨rfl, h.xroom, by simp [h.xsteps], h.xon, ?_, ?_, ?_, ?_, rise_put h.xrise _ _⟩
  · show some j = some (n - (i + 1))
    congr 1; omega
  · show used (putL _ _ _) ≤ _
    omega
  · show look (putL _ _ _) sN = _
    rw [look_put _ h.xrise, if_neg (by decide), h.xnone]
  · show (putL _ _ _).length ≤ _
    omega
theorem FuSt.last {k : Dk} {n : Nat} (h : FuSt k n n) (ys : List Int) (hy : ys.length ≤ 100) (hi : n < 40) : ∃ k', appK k sF ys = (13, k') ∧ k'.off = true ∧ k'.steps = n ∧ k'.fs.length ≤ n + 1 := by
  rw [h.app ys hy hi]
  unfold passK
  have hp := len_put k.fs sF ⟨((look k.fs sF).map Fle.b).getD [] ++ ys, ((look k.fs sF).map Fle.safe).getD 0⟩
  have h3 := h.xlen
  dsimp only
  rw [h.xfu, Nat.sub_self]
  exact ⟨_, rfl, rfl, h.xsteps, by show (putL _ _ _).length ≤ _; omega⟩
theorem off_read {k : Dk} (h : k.off = true) (s : Nm) : readK k s = (13, []) := by unfold readK; rw [h]; rfl
theorem off_sync {k : Dk} (h : k.off = true) (s : Nm) : syncK k s = (13, k) := by unfold syncK stepK; rw [h]; rfl
theorem off_fuse {k : Dk} (h : k.off = true) (n : Int) (hn : ¬ n < 0) : fuseK k n = (13, k) := by unfold fuseK; rw [if_neg hn, h]; rfl
theorem fs_new (n : Nat) : FuSt (fuseK (newK 100000) n).2 n 0 := by
  have : fuseK (newK 100000) n = (0, { newK 100000 with fu := some n }) := by
    unfold fuseK
    rw [if_neg (by omega)]
    rfl
  rw [this]
  exact ⟨rfl, rfl, rfl, rfl, Nat.le_refl _, rfl, Nat.le_refl _, trivial⟩
theorem fuse_new (n : Nat) : (fuseK (newK 100000) n).1 = 0 := by
  unfold fuseK
  rw [if_neg (by omega)]
  rfl

set_option maxRecDepth 100000 in
set_option maxHeartbeats 4000000 in
theorem diskFuse_any (st : Int) (a : Option Addr) (n c : Nat) (xs : List (List Int)) (W : World) (hR : RRd W a n xs) :
    Calls Try.prog 6 #[.int .i64 st, .slice a n c] W fun e w' => e = .returned (.bool true) ∧ Below W.heap.size W w' := by
  obtain ⟨m, hm, hm30⟩ := tm30 st
  have hN := new_ok 100000 (by omega) W
  have hFu := fun d F w hD => fuse_any d F (newK 100000) (m : Int) (by omega) w hD
  rw [fuse_new m] at hFu
  have hfs := fs_new m
  obtain ⟨k0, hk0⟩ : ∃ k0, (fuseK (newK 100000) m).2 = k0 := ⟨_, rfl⟩
  rw [hk0] at hFu hfs
  clear hk0
  have hnm := hR.most
  go_enter Try.func6, Try.ntmps6
  go_upto_region 3 with (first
    | (go_at_call 7; refine hN.mono ?_; rintro e w1 ⟨d, rfl, ⟨F1, hD1, hF1⟩, hB1⟩))
  replace hFu := hFu d F1 _ hD1
  go_wp2_with (first
    | (go_at_call 15; refine hFu.mono ?_; rintro e w2 ⟨rfl, F2, hD2, hk2, hF2⟩)
    | (go_at_call 9; refine (wakes_any _).mono ?_; rintro e w3 ⟨rfl, hb3⟩))
  have hB2 : Below W.heap.size W w2 := hB1.trans (hk2.low hB1.size hF1)
  have hB3 : Below W.heap.size W w3 := hB2.trans (hb3.mono hB2.size)
  have hF2' : ∀ i, F2 i → W.heap.size ≤ i := fun i hi => (hF2 i hi).elim (hF1 i) (fun h => by have := hB1.size; omega)
  have hD3 := hD2.below hb3
  clear hFu hN hk2 hD2 hD1 hF2 hb3 hB2 hB1 hF1
  go_loopw [8, 9, 10, 11, 12] (fun s8 s9 _ _ _ wr => ∃ (i : Nat) (k : Dk) (F : Nat → Prop), s8 = .int .i64 i ∧ s9 = .int .i64 i ∧ i ≤ n ∧ i ≤ m ∧ Hid (FuSt k m i) ∧ Hid (DiskAt wr F d k) ∧ Hid (∀ j, F j → W.heap.size ≤ j) ∧ Hid (Below W.heap.size W wr)) (fun _ s9 _ _ _ _ => 40 - (intOf s9).toNat)
  case atStart => exact ⟨0, k0, F2, rfl, rfl, by omega, by omega, hfs, hD3, hF2', hB3⟩
  case round =>
    clear hfs hD3 hF2' hB3
    obtain ⟨i, k, F, rfl, rfl, hin, him, HS, HD, HF, HB⟩ := hrel
    have hst := HS.out.xsteps
    have hln := HS.out.xlen
    by_cases hlt : i < n
    · have hcl : (i : Int) < (n : Int) := by omega
      have hcl40 : (i : Int) < 40 := by omega
      obtain ⟨b, off, rfl, hce⟩ := hR.flat (by omega)
      obtain ⟨aj, nj, cj, hcj, hrj⟩ := hce i hlt
      clear hce
      have hat : ∀ w', Below W.heap.size W w' → w'.cell? ⟨b, off + i, none⟩ = some (.slice aj nj cj) ∧ Rd w' aj nj cj (xs.getD i []) := fun w' hb => ⟨(hb.cell (p := ⟨b, off + i, none⟩) (World.block_lt_of_cell? W _ hcj)).trans hcj, hrj.carry (Nat.le_refl _) hb⟩
      clear hcj hrj
      have hSy := sync_any d F k sN (by omega) (by omega) wr HD.out
      rw [HS.out.sync] at hSy
      have hAb := fun F w hD a n c hn hR => append_any d F k sB a n c ((xs.getD i []).take 100) (by omega) (by omega) hn w hD hR
      rw [HS.out.bad] at hAb
      unfold sN at hSy
      unfold sB at hAb
      have HSt : Hid (k.steps = i) := hst
      have HLn : Hid (k.fs.length ≤ i) := hln
      clear hst hln
      go_upto_region 11 with (first
        | (go_at_call 14; refine hSy.mono ?_; rintro e w4 ⟨rfl, F4, hD4, hk4, hF4⟩; have hB4 : Below W.heap.size W w4 := HB.out.trans (hk4.low HB.out.size HF.out); have hcj4 := (hat _ hB4).1; have hrj4 := (hat _ hB4).2)
        | (go_at_call 12; refine (fewO aj nj cj _ _ hrj4).mono ?_; rintro e w5 ⟨a5, n5, c5, rfl, hn5, _, hr5, hb5⟩)
        | (go_at_call 13; refine (hAb F4 _ (hD4.below hb5) a5 n5 c5 (by omega) hr5).mono ?_; rintro e w6 ⟨rfl, F6, hD6, hk6, hF6⟩))
      have hF4' : ∀ j, F4 j → W.heap.size ≤ j := fun j hj => (hF4 j hj).elim (HF.out j) (fun h => by have := HB.out.size; omega)
      have hB5 := hB4.trans (hb5.mono hB4.size)
      have hB6 : Below W.heap.size W w6 := hB5.trans (hk6.low hB5.size hF4')
      have hF6' : ∀ j, F6 j → W.heap.size ≤ j := fun j hj => (hF6 j hj).elim (hF4' j) (fun h => by have := hB5.size; omega)
      have hcj6 := (hat _ hB6).1
      have hrj6 := (hat _ hB6).2
      clear hSy hAb hr5 hb5 hk6 hD4 hk4 hF4 hF4' hB5 hB4 hcj4 hrj4 hF6 hn5
      have hAf := fun F w hD a n c hn hR => append_any d F k sF a n c ((xs.getD i []).take 100) (by have := HSt.out; omega) (by have := HLn.out; omega) hn w hD hR
      have hy : ((xs.getD i []).take 100).length ≤ 100 := by rw [List.length_take]; omega
      by_cases hdm : i < m
      · obtain ⟨m1, m2⟩ := HS.out.more ((xs.getD i []).take 100) hy (by omega) hdm
        rw [m1] at hAf
        obtain ⟨k7, hk7⟩ : ∃ k7, (appK k sF ((xs.getD i []).take 100)).2 = k7 := ⟨_, rfl⟩
        rw [hk7] at hAf m2
        have HM2 : Hid (FuSt k7 m (i + 1)) := m2
        have hcm : (i : Int) < (m : Int) := by omega
        clear hk7 m1 m2 hy
        unfold sF at hAf
        go_wp2_with (first
          | (go_at_call 12; refine (fewO aj nj cj _ _ hrj6).mono ?_; rintro e w7 ⟨a7, n7, c7, rfl, hn7, _, hr7, hb7⟩)
          | (go_at_call 13; refine (hAf F6 _ (hD6.below hb7) a7 n7 c7 (by omega) hr7).mono ?_; rintro e w8 ⟨rfl, F8, hD8, hk8, hF8⟩))
        have hB7 := hB6.trans (hb7.mono hB6.size)
        exact ⟨⟨i + 1, k7, F8, by go_num, by go_num, by omega, by omega, HM2, hD8, fun j hj => (hF8 j hj).elim (hF6' j) (fun h => by have := hB7.size; omega), hB7.trans (hk8.low hB7.size hF6')⟩, by simp [intOf]; omega⟩
      · obtain rfl : i = m := by omega
        have hcm : ¬ (i : Int) < (i : Int) := by omega
        obtain ⟨k7, hk7, ho7, hs7, hl7⟩ := HS.out.last ((xs.getD i []).take 100) hy (by omega)
        rw [hk7] at hAf
        have hRd := fun F w hD => read_any d F k7 sF w hD
        rw [off_read ho7] at hRd
        have hSy := fun F w hD => sync_any d F k7 sF (by omega) (by omega) w hD
        rw [off_sync ho7] at hSy
        have hFu := fun F w hD => fuse_any d F k7 5 (by omega) w hD
        rw [off_fuse ho7 5 (by omega)] at hFu
        have hSt := fun F w hD => steps_any d F k7 w hD
        rw [hs7] at hSt
        clear hk7 hy ho7 hs7
        unfold sF at hAf hRd hSy
        go_wp2_with (first
          | (go_at_call 12; refine (fewO aj nj cj _ _ hrj6).mono ?_; rintro e w7 ⟨a7, n7, c7, rfl, hn7, _, hr7, hb7⟩)
          | (go_at_call 13; refine (hAf F6 _ (hD6.below hb7) a7 n7 c7 (by omega) hr7).mono ?_; rintro e w8 ⟨rfl, F8, hD8, hk8, hF8⟩)
          | (go_at_call 18; refine (hRd F8 _ hD8).mono ?_; rintro e w9 ⟨v9, rfl, _, hb9⟩)
          | (go_at_call 14; refine (hSy F8 _ (hD8.below hb9)).mono ?_; rintro e w10 ⟨rfl, F10, hD10, hk10, hF10⟩)
          | (go_at_call 15; refine (hFu F10 _ hD10).mono ?_; rintro e w11 ⟨rfl, F11, hD11, hk11, hF11⟩)
          | (go_at_call 27; refine (hSt F11 _ hD11).mono ?_; rintro e w12 ⟨rfl, rfl⟩))
        go_ret
        have hB7 := hB6.trans (hb7.mono hB6.size)
        have hB8 := hB7.trans (hk8.low hB7.size hF6')
        have hF8' : ∀ j, F8 j → W.heap.size ≤ j := fun j hj => (hF8 j hj).elim (hF6' j) (fun h => by have := hB7.size; omega)
        have hB9 := hB8.trans (hb9.mono hB8.size)
        have hB10 := hB9.trans (hk10.low hB9.size hF8')
        have hF10' : ∀ j, F10 j → W.heap.size ≤ j := fun j hj => (hF10 j hj).elim (hF8' j) (fun h => by have := hB9.size; omega)
        exact ⟨rfl, hB10.trans (hk11.low hB10.size hF10')⟩
    · have hcl : ¬ (i : Int) < (n : Int) := by omega
      have hSt := steps_any d F k wr HD.out
      rw [hst] at hSt
      clear hst hln
      go_wp2_with (first
        | (go_at_call 27; refine hSt.mono ?_; rintro e w12 ⟨rfl, rfl⟩))
      go_ret
      exact ⟨rfl, HB.out⟩

end Go.Proofs.Ytimfidhehikaiaa
