/- Texts of one seat, one behind the other: LrE, LsC, LrF, LtI, DkI, LkD. -/
import Derived.Test.YtikkieaokfailaaGreatDoorM12
import Derived.Test.YtikkieaokfailaaGreatDoorM10
import Derived.Test.YtikkieaokfailaaGreatDoorM6
import Derived.Test.YtikkieaokfailaaGreatDoorM11
import Derived.Deep.Slices
/- seglog's rebase: its walk. -/
namespace Go.Proofs.YtikkieaokfailaaGreatDoor
open Go.RowKit Go.Joins

theorem remC_gr (c : Ch) (dn : Bool) (k : Dk) : (remC c dn k).2.2.steps ≤ k.steps + c.cnt ∧ (remC c dn k).2.2.fs.length ≤ k.fs.length := by
  have h := remAll_gr (segs c.g 0 c.cnt) dn k
  rw [segs_len] at h
  exact h
theorem room1_gr (x : Nat × Ch × Bool × Dk) : (room1 x).2.2.2.steps ≤ x.2.2.2.steps + x.2.1.cnt ∧ (room1 x).2.2.2.fs.length ≤ x.2.2.2.fs.length ∧ (room1 x).2.1 = x.2.1 := by
  obtain ⟨h1, h2⟩ := remC_gr x.2.1 x.2.2.1 x.2.2.2
  unfold room1 ifRoomL
  split
  · exact ⟨h1, h2, rfl⟩
  · exact ⟨Nat.le_add_right _ _, Nat.le_refl _, rfl⟩
theorem remNew_gr (dn : Bool) (k : Dk) : (remNewL dn k).2.2.steps ≤ k.steps + 1 ∧ (remNewL dn k).2.2.fs.length ≤ k.fs.length := by
  unfold remNewL
  split
  · exact stpR_gr dn k sNew
  · exact ⟨Nat.le_succ _, Nat.le_refl _⟩
theorem back2_gr (c : Ch) (dn : Bool) (k : Dk) : (back2 c dn k).2.2.steps ≤ k.steps + c.cnt + 1 ∧ (back2 c dn k).2.2.fs.length ≤ k.fs.length := by
  obtain ⟨h1, h2⟩ := remC_gr c dn k
  unfold back2
  split
  · exact ⟨by omega, h2⟩
  · obtain ⟨h3, h4⟩ := remNew_gr (remC c dn k).2.1 (remC c dn k).2.2
    exact ⟨by omega, by omega⟩
theorem room2_gr (c : Ch) (dn : Bool) (k : Dk) : (room2 (wrB c dn k)).2.2.2.steps ≤ k.steps + c.cnt + 2 ∧ (room2 (wrB c dn k)).2.2.2.fs.length ≤ k.fs.length + 1 ∧ (room2 (wrB c dn k)).2.1 = c := by
  have g1 : (wrB c dn k).2.2.2.steps ≤ k.steps + 1 := stp_gr dn k _ (app_gr k _ _).1
  have g2 : (wrB c dn k).2.2.2.fs.length ≤ k.fs.length + 1 := stp_fl dn k _ (app_gr k _ _).2
  have g3 : (wrB c dn k).2.1 = c := rfl
  generalize wrB c dn k = x at *
  obtain ⟨h1, h2⟩ := back2_gr x.2.1 x.2.2.1 x.2.2.2
  rw [g3] at h1 h2
  unfold room2 ifRoomL
  rw [g3]
  split
  · exact ⟨by dsimp only; omega, by dsimp only; omega, rfl⟩
  · exact ⟨by omega, by omega, g3⟩
theorem rename_gr (k : Dk) (s t : Nm) : (renameK k s t).2.steps ≤ k.steps + 1 ∧ (renameK k s t).2.fs.length ≤ k.fs.length + 1 := by
  unfold renameK
  split
  · exact ⟨Nat.le_succ _, Nat.le_succ _⟩
  · split
    · exact ⟨Nat.le_succ _, Nat.le_succ _⟩
    · unfold stepK
      split
      · exact ⟨Nat.le_succ _, Nat.le_succ _⟩
      · split
        · exact ⟨Nat.le_succ _, Nat.le_succ _⟩
        · split
          · exact ⟨Nat.le_succ _, Nat.le_succ _⟩
          · split
            · exact ⟨Nat.le_succ _, Nat.le_succ _⟩
            · obtain ⟨kp, hp⟩ : ∃ kp, passK k = kp := ⟨_, rfl⟩
              have h1 : kp.2.steps ≤ k.steps + 1 ∧ kp.2.fs = k.fs := by
                rw [← hp]
                unfold passK
                split
                · exact ⟨Nat.le_refl _, rfl⟩
                · exact ⟨Nat.le_succ _, rfl⟩
                · exact ⟨Nat.le_refl _, rfl⟩
              rw [hp]
              split
              · exact ⟨h1.1, by rw [h1.2]; exact Nat.le_succ _⟩
              · refine ⟨h1.1, ?_⟩
                dsimp only
                rw [h1.2]
                exact Nat.le_trans (len_put _ _ _) (Nat.succ_le_succ (len_drop _ _))

theorem RNot.mono {w : World} {a : Option Addr} {n : Nat} {S T : Nat → Prop} (h : RNot w a n S) (hT : ∀ i, T i → S i) : RNot w a n T :=
  ⟨fun ad e ht => h.1 ad e (hT _ ht), fun b off e j hj aj nj cj hc ad ha ht => h.2 b off e j hj aj nj cj hc ad ha (hT _ ht)⟩
/-- What calls at another chain leave of the log. -/
theorem LogAt.ofC {w X w' : World} {F H : Nat → Prop} {lb d : Nat} {l : Lg} {k k' : Dk} {v : Value} {dn' : Bool} {b : Nat} {c' : Ch} (h : LogAt w F H lb d l k) (hRc : RcA w H v l.recs) (hB : Below w.heap.size w X) (hb : w.heap.size ≤ b) (hPb : 0 < b) (hlb : lb < w.heap.size) (hp : Lcp X F lb d l.most v dn' k' b 0 l.ch c' w') :
    ∃ F', LD w' F' lb d l.most v l.ch dn' k' ∧ RcA w' H v l.recs ∧ Keep (fun i => F i ∨ H i ∨ i = lb) w w' ∧ (∀ i, F' i → F i ∨ w.heap.size ≤ i) ∧ (∀ i, H i → ¬ F' i) ∧ Pf w' F' lb ∧ (∀ i, H i → i < w'.heap.size) := by
  obtain ⟨F', hL, hk, hF⟩ := hp
  have hs := hB.size
  have hks := hk.size
  have hHl := h.lt
  have hF' : ∀ i, F' i → F i ∨ w.heap.size ≤ i := fun i hi => (hF i hi).imp id (fun h => by omega)
  refine ⟨F', hL.ld _ _ _ _ _ _ _ _ _ _ _ (by omega), (hRc.keep (S := fun _ => False) (Keep.ofBelow hB) (fun _ _ h => h) (fun _ h => h)).keep hk (fun i hi hs => ?_) (fun _ h => h), (Keep.ofBelow hB).andThen hk (fun i hi hs => ?_), hF', fun i hi hf => ?_, (h.pf.below hB).next3 hPb hk hF, fun i hi => by have := hHl i hi; omega⟩
  · rcases hs with hs | hs | hs
    · exact h.hf i hi hs
    · rw [hs] at hi; exact h.hl hi
    · have := hHl i hi; omega
  · rcases hs with hs | hs | hs
    · exact Or.inl hs
    · exact Or.inr (Or.inr hs)
    · omega
  · rcases hF' i hf with h1 | h1
    · exact h.hf i hi h1
    · have := hHl i hi; omega
theorem LogAt.ofC' {w X w' : World} {F H : Nat → Prop} {lb d : Nat} {l : Lg} {k k' : Dk} {v : Value} {dn' : Bool} {b : Nat} {c' : Ch} (h : LogAt w F H lb d l k) (hRc : RcA w H v l.recs) (hB : Below w.heap.size w X) (hb : w.heap.size ≤ b) (hPb : 0 < b) (hlb : lb < w.heap.size) (hp : Lcp X F lb d l.most v dn' k' b 0 l.ch c' w') :
    Lgp w F H lb d ⟨l.most, l.recs, l.ch, dn'⟩ k' w' := by
  obtain ⟨F', h1, h2, h3, h4, h5, h6, h7⟩ := h.ofC hRc hB hb hPb hlb hp
  exact ⟨F', H, ⟨⟨v, h1, h2⟩, h5, h.hl, h7, h6, h.ph⟩, h3, h4, fun i hi => Or.inl hi⟩

set_option maxRecDepth 100000 in
set_option maxHeartbeats 4000000 in
theorem rebase_any (w : World) (F H : Nat → Prop) (lb d : Nat) (l : Lg) (k : Dk) (h : LogAt w F H lb d l k) (hg : l.ch.g < 18446744073709551615) (hcnt : l.ch.cnt ≤ 10000) (hmo : l.most ≤ 1000000000)
    (a : Option Addr) (n cc : Nat) (rs : List (List Int)) (hR : RRd w a n rs) (hnS : RNot w a n (fun i => F i ∨ i = lb ∨ w.heap.size ≤ i)) (hn : n ≤ 10000) (hrl : ∀ r ∈ rs, r.length ≤ 1048576) (hst : k.steps < 900000) (hfl : k.fs.length < 900000) :
    Calls Tryz.prog 73 #[.pointer (some ⟨lb, 0, none⟩), .slice a n cc] w fun e w' => Gs (rebaseL l k rs).1 e ∧ Lgp w F H lb d (rebaseL l k rs).2.1 (rebaseL l k rs).2.2 w' := by
  have hmf : ∀ (fn : Fn) (first cap : Array Value) (w : World), (Instr.makeFunc fn first cap).run Tryz.prog w = .ok (.func fn first cap) w := fun _ _ _ _ => rfl
  obtain ⟨R, HR⟩ : ∃ R, Hid (rebaseL l k rs = R) := ⟨_, rfl⟩
  rw [HR.out]
  obtain ⟨v, hLD, hRc⟩ := h.ex
  have hlb := hLD.lt
  have hFl := hLD.D.lt
  have hgp := h.pf.pw.at
  have hgz : (l.ch.g : Int) < 18446744073709551615 := by omega
  obtain ⟨W, hW⟩ : ∃ W, ((w.alloc (.cells #[.pointer (some ⟨lb, 0, none⟩)] 48)).alloc (.cells #[.slice a n cc] 30)) = W := ⟨_, rfl⟩
  have hB : Below w.heap.size w W := by rw [← hW]; exact ((Below.refl _ _).alloc (Nat.le_refl _) _).alloc (by simp) _
  have p0 : W.heap[w.heap.size]? = some (.cells #[.pointer (some ⟨lb, 0, none⟩)] 48 (0, 0)) := by rw [← hW]; exact alloc2_at w _ _
  have p1 : W.heap[w.heap.size + 1]? = some (.cells #[.slice a n cc] 30 (0, 0)) := by rw [← hW]; exact (by simpa using alloc_at (w.alloc (.cells #[.pointer (some ⟨lb, 0, none⟩)] 48)) (.cells #[.slice a n cc] 30))
  have hWs : W.heap.size = w.heap.size + 2 := by rw [← hW]; simp
  have c0 := box_cell p0
  have c1 := box_cell p1
  have q3W := (hLD.below hB).c3
  go_enter Tryz.func73, Tryz.ntmps73
  go_upto_region 1 with fail
  clear hW
  go_upto_region 2 with fail
  have hbW : Below W.heap.size W (W.alloc (.cells #[.int .u64 ((l.ch.g : Int) + 1), .int .i64 0, .int .i64 0, .bool false] 117)) := (Below.refl _ _).alloc (Nat.le_refl _) _
  have x2 : (W.alloc (.cells #[.int .u64 ((l.ch.g : Int) + 1), .int .i64 0, .int .i64 0, .bool false] 117)).heap[w.heap.size + 2]? = some (.cells (chs ⟨l.ch.g + 1, 0, 0, false⟩) 117 (0, 0)) := by
    rw [← hWs]
    exact alloc_at W _
  have hXs : (W.alloc (.cells #[.int .u64 ((l.ch.g : Int) + 1), .int .i64 0, .int .i64 0, .bool false] 117)).heap.size = w.heap.size + 3 := by
    have : (W.alloc (.cells #[.int .u64 ((l.ch.g : Int) + 1), .int .i64 0, .int .i64 0, .bool false] 117)).heap.size = W.heap.size + 1 := by simp
    omega
  have x0 := box_below p0 hbW
  have x1 := box_below p1 hbW
  have hBX : Below w.heap.size w (W.alloc (.cells #[.int .u64 ((l.ch.g : Int) + 1), .int .i64 0, .int .i64 0, .bool false] 117)) := hB.trans (hbW.mono (by omega))
  generalize W.alloc (.cells #[.int .u64 ((l.ch.g : Int) + 1), .int .i64 0, .int .i64 0, .bool false] 117) = X at *
  clear hbW hB p0 p1 c0 c1 q3W hWs
  obtain ⟨p, hpd⟩ : ∃ p, w.heap.size = p := ⟨_, rfl⟩
  have hbl : w.heap.size ≤ p + 2 := by omega
  have hPb : 0 < p + 2 := by omega
  rw [hpd] at x0 x1 x2 hXs ⊢
  have hblb : p + 2 ≠ lb := by omega
  have np : ∀ i, i = p ∨ i = p + 1 → ¬ (F i ∨ i = lb ∨ i = p + 2) := fun i hi h9 => by
    rcases h9 with h9 | h9 | h9
    · have := hFl i h9; omega
    · omega
    · omega
  have npb : ¬ F (p + 2) := fun h9 => by have := hFl _ h9; omega
  have hLC : LC X F lb d l.most v l.dn k (p + 2) 0 l.ch ⟨l.ch.g + 1, 0, 0, false⟩ := ⟨by rw [if_neg hblb]; exact hLD.below hBX, fun e => absurd e hblb, fun _ => ⟨rfl, npb, x2⟩⟩
  have hPX := h.pf.below hBX
  have hRX := hR.below hBX
  have hnX : RNot X a n (fun i => F i ∨ i = lb ∨ w.heap.size ≤ i) := hnS.keep hR (Keep.ofBelow (S := fun _ => False) hBX) ⟨fun _ _ h => h, fun _ _ _ _ _ _ _ _ _ _ _ h => h⟩
  have hr1 := room1_any X F lb d l.most v l.dn k (p + 2) p l.ch ⟨l.ch.g + 1, 0, 0, false⟩ (p + 1) hLC hblb hPX hPb x0 ⟨fun h9 => np p (Or.inl rfl) (Or.inl h9), by omega, by omega⟩ (by show l.ch.g + 1 < _; omega) (Nat.zero_le _) (Nat.zero_le _) hmo a n cc rs x1 hRX (hnX.mono (fun i hi => hi.elim Or.inl (fun h9 => Or.inr (h9.elim Or.inl (fun h8 => Or.inr (by omega)))))) hn hrl (by show k.steps + 3 * n + 0 < _; omega) (by omega)
  obtain ⟨g1, g2, g3⟩ := room1_gr (layAllL l.most rs ⟨l.ch.g + 1, 0, 0, false⟩ l.dn k)
  obtain ⟨g4, g5, g6, g7⟩ := layAll_gr l.most rs ⟨l.ch.g + 1, 0, 0, false⟩ l.dn k
  have hlen := hR.len
  rw [hlen] at g4 g5 g7
  have h1R : rb1L l rs (room1 (layAllL l.most rs ⟨l.ch.g + 1, 0, 0, false⟩ l.dn k)) = R := HR.out
  generalize layAllL l.most rs ⟨l.ch.g + 1, 0, 0, false⟩ l.dn k = L0 at *
  obtain ⟨Y, HY⟩ : ∃ Y, room1 L0 = Y := ⟨_, rfl⟩
  rw [HY] at hr1 g1 g2 g3 h1R
  clear HY HR
  have x0c := box_cell x0
  have x1c := box_cell x1
  obtain ⟨e2, c2, dn2, k2⟩ := Y
  dsimp only at hr1 g1 g2 g3 g6
  have g8 : c2.cnt ≤ 10001 := by rw [g3]; dsimp only at g7; omega
  have g9 : c2.g < 18446744073709551616 := by rw [g3, g6]; omega
  have hs2 : k2.steps < 940100 := by rw [g3] at g8; omega
  have hf2 : k2.fs.length < 920100 := by omega
  clear g1 g2 g3 g4 g5 g6 g7 hlen
  by_cases h02 : e2 = 0
  · subst h02
    go_upto_region 3 with (first
      | (go_at_call 108; refine (hr1.mono (fun e w' h => And.intro (h.1.elim (fun k => k.2) (fun k => absurd rfl k.1)) h.2 : ∀ e w', _ → (e = .returned (.tuple #[]) ∧ _))).mono ?_; rintro e w2 ⟨rfl, F2, hL2, hk2, hF2⟩))
    clear hr1
    have y0 := box_keep x0 hk2 (np p (Or.inl rfl))
    have y0c := box_cell y0
    have hks2 := hk2.size
    have np2 : ¬ F2 p := fun h9 => (hF2 p h9).elim (fun h8 => np p (Or.inl rfl) (Or.inl h8)) (fun h8 => by omega)
    have hr2 := room2_any w2 F2 lb d l.most v dn2 k2 (p + 2) p l.ch c2 hL2 hblb (hPX.next3 hPb hk2 hF2) hPb y0 ⟨np2, by omega, by omega⟩ (by omega) g9 (by omega) (by omega) (by omega)
    obtain ⟨g1, g2, g3⟩ := room2_gr c2 dn2 k2
    have h2R : rb2L l rs (room2 (wrB c2 dn2 k2)) = R := by rw [← h1R]; unfold rb1L; rw [if_neg (by simp)]
    generalize room2 (wrB c2 dn2 k2) = Z at *
    obtain ⟨e3, c3, dn3, k3⟩ := Z
    dsimp only at hr2 g1 g2 g3
    subst g3
    clear h1R
    by_cases h03 : e3 = 0
    · subst h03
      go_upto_region 4 with (first
        | (go_at_call 108; refine (hr2.mono (fun e w' h => And.intro (h.1.elim (fun k => k.2) (fun k => absurd rfl k.1)) h.2 : ∀ e w', _ → (e = .returned (.tuple #[]) ∧ _))).mono ?_; rintro e w3 ⟨rfl, hp3⟩))
      obtain ⟨F3, hL3, hk3, hF3⟩ := Lcp.next hk2 hF2 hp3
      clear hr2 y0 y0c np2 hk2 hF2 hp3 hks2 hL2
      have y0 := box_keep x0 hk3 (np p (Or.inl rfl))
      have y0c := box_cell y0
      have hks3 := hk3.size
      have hsy := ssync_any lb d l.most F3 v l.ch dn3 k3 sNew (by omega) (by omega) w3 (hL3.ld _ _ _ _ _ _ _ _ _ _ _ hblb)
      have g3 := stp_gr dn3 k3 (syncK k3 sNew) (sync_gr k3 sNew).1
      have g4 := stp_fl dn3 k3 (syncK k3 sNew) (sync_gr k3 sNew).2
      have h3R : rb3L l rs c3 (stp dn3 k3 (syncK k3 sNew)) = R := by rw [← h2R]; unfold rb2L; rw [if_neg (by simp)]
      generalize stp dn3 k3 (syncK k3 sNew) = Z4 at *
      obtain ⟨e4, dn4, k4⟩ := Z4
      dsimp only at hsy g3 g4
      unfold sNew at hsy
      clear h2R
      by_cases h04 : e4 = 0
      · subst h04
        go_upto_region 5 with (first
          | (go_at_call 104; refine (hsy.mono (fun e w' h => And.intro (h.1.elim (fun k => k.2) (fun k => absurd rfl k.1)) h.2 : ∀ e w', _ → (e = .returned (.tuple #[]) ∧ _))).mono ?_; rintro e w4 ⟨rfl, hp4⟩))
        obtain ⟨F4, hL4, hk4, hF4⟩ := Lcp.next hk3 hF3 (hL3.lp _ _ _ _ _ _ _ _ _ _ _ hblb hp4)
        clear hsy y0 y0c hk3 hF3 hp4 hks3 hL3
        have y0 := box_keep x0 hk4 (np p (Or.inl rfl))
        have y0c := box_cell y0
        have hks4 := hk4.size
        have hLD4 := hL4.ld _ _ _ _ _ _ _ _ _ _ _ hblb
        have hsr := step_any 118 #[.pointer (some ⟨p, 0, none⟩)] (renameK k4 sNew sBase) w4 F4 lb d l.most v l.ch dn4 k4 hLD4 (enters_of Tryz.func118 (by kernel_rfl) rfl) (rb5_any w4 F4 lb d l.most v dn4 k4 p l.ch hLD4 y0 (by omega) (by omega))
        have g5 := stp_gr dn4 k4 (renameK k4 sNew sBase) (rename_gr k4 _ _).1
        have g6 := stp_fl dn4 k4 (renameK k4 sNew sBase) (rename_gr k4 _ _).2
        have h4R : rb4L l rs c3 (stp dn4 k4 (renameK k4 sNew sBase)) = R := by rw [← h3R]; unfold rb3L; rw [if_neg (by simp)]
        generalize stp dn4 k4 (renameK k4 sNew sBase) = Z5 at *
        obtain ⟨e5, dn5, k5⟩ := Z5
        dsimp only at hsr g5 g6
        clear h3R
        by_cases h05 : e5 = 0
        · subst h05
          go_upto_region 6 with (first
            | (go_at_call 117; refine (hsr.mono (fun e w' h => And.intro (h.1.elim (fun k => k.2) (fun k => absurd rfl k.1)) h.2 : ∀ e w', _ → (e = .returned (.tuple #[]) ∧ _))).mono ?_; rintro e w5 ⟨rfl, hp5⟩))
          obtain ⟨F5, hL5, hk5, hF5⟩ := Lcp.next hk4 hF4 (hL4.lp _ _ _ _ _ _ _ _ _ _ _ hblb hp5)
          clear hsr y0 y0c hk4 hF4 hp5 hks4 hL4 hLD4
          have y0 := box_keep x0 hk5 (np p (Or.inl rfl))
          have y0c := box_cell y0
          have y1 := box_keep x1 hk5 (np (p + 1) (Or.inr rfl))
          have y1c := box_cell y1
          have hks5 := hk5.size
          have hLD5 := hL5.ld _ _ _ _ _ _ _ _ _ _ _ hblb
          have z3 := hLD5.c3
          have z4 := hLD5.c4
          have z5 := hLD5.c5
          have z6 := hLD5.c6
          go_upto_region 7 with fail
          have hb6 : Below w5.heap.size w5 (w5.alloc (.cells #[.int .u64 (l.ch.g : Int), .int .i64 (l.ch.cnt : Int), .int .i64 (l.ch.size : Int), .bool l.ch.loose] 117)) := (Below.refl _ _).alloc (Nat.le_refl _) _
          have y2 : (w5.alloc (.cells #[.int .u64 (l.ch.g : Int), .int .i64 (l.ch.cnt : Int), .int .i64 (l.ch.size : Int), .bool l.ch.loose] 117)).heap[w5.heap.size]? = some (.cells (chs l.ch) 117 (0, 0)) := alloc_at w5 _
          obtain ⟨o, ho⟩ : ∃ o, w5.heap.size = o := ⟨_, rfl⟩
          rw [ho] at y2 ⊢
          have hL6 := hL5.below hb6
          have hP6 := ((hPX.next3 hPb hk5 hF5).below hb6)
          have u0 := box_below y0 hb6
          have u1 := box_below y1 hb6
          have hs6 : (w5.alloc (.cells #[.int .u64 (l.ch.g : Int), .int .i64 (l.ch.cnt : Int), .int .i64 (l.ch.size : Int), .bool l.ch.loose] 117)).heap.size = o + 1 := by simp [ho]
          generalize w5.alloc (.cells #[.int .u64 (l.ch.g : Int), .int .i64 (l.ch.cnt : Int), .int .i64 (l.ch.size : Int), .bool l.ch.loose] 117) = V at *
          clear z3 z4 z5 z6 y0c y1c
          have hbD : Below V.heap.size V V.drew := (Below.refl _ _).drew
          have hL7 := hL6.below hbD
          have hP7 := hP6.below hbD
          have b0 : V.drew.cell? ⟨p + 2, 0, none⟩ = some (.int .u64 (c3.g : Int)) := hL7.cell 0 (by omega)
          have b1 : V.drew.cell? ⟨p + 2, 1, none⟩ = some (.int .i64 (c3.cnt : Int)) := hL7.cell 1 (by omega)
          have b2 : V.drew.cell? ⟨p + 2, 2, none⟩ = some (.int .i64 (c3.size : Int)) := hL7.cell 2 (by omega)
          have b3 : V.drew.cell? ⟨p + 2, 3, none⟩ = some (.bool c3.loose) := hL7.cell 3 (by omega)
          have u0D := box_below u0 hbD
          have u1D := box_below u1 hbD
          have u2D := box_below y2 hbD
          have HS0 : V.drew.cell? ⟨p, 0, none⟩ = some (.pointer (some ⟨lb, 0, none⟩)) ∧ V.drew.cell? ⟨p + 1, 0, none⟩ = some (.slice a n cc) ∧ V.drew.cell? ⟨p + 2, 0, none⟩ = some (.int .u64 (c3.g : Int)) ∧ V.drew.cell? ⟨p + 2, 1, none⟩ = some (.int .i64 (c3.cnt : Int)) ∧ V.drew.cell? ⟨p + 2, 2, none⟩ = some (.int .i64 (c3.size : Int)) ∧ V.drew.cell? ⟨p + 2, 3, none⟩ = some (.bool c3.loose) := ⟨box_cell u0D, box_cell u1D, b0, b1, b2, b3⟩
          have hRV : RRd V.drew a n rs := ((hRX.keepS (hnX.mono (fun i hi => hi.elim Or.inl (fun h9 => Or.inr (h9.elim Or.inl (fun h8 => Or.inr (by omega)))))) hk5).below hb6).below hbD
          have hsD : V.drew.heap.size = V.heap.size := rfl
          refine wp_region_lx (fun w' => w'.cell? ⟨p, 0, none⟩ = some (.pointer (some ⟨lb, 0, none⟩)) ∧ w'.cell? ⟨p + 1, 0, none⟩ = some (.slice a n cc) ∧ w'.cell? ⟨p + 2, 0, none⟩ = some (.int .u64 (c3.g : Int)) ∧ w'.cell? ⟨p + 2, 1, none⟩ = some (.int .i64 (c3.cnt : Int)) ∧ w'.cell? ⟨p + 2, 2, none⟩ = some (.int .i64 (c3.size : Int)) ∧ w'.cell? ⟨p + 2, 3, none⟩ = some (.bool c3.loose)) [] 11 (by kernel_rfl) (by kernel_rfl) ?_
          generalize V.drew = X7 at *
          refine lx_rd 0 (.pointer (some ⟨lb, 0, none⟩)) (by kernel_rfl) (fun _ _ d _ _ h => by cases d <;> exact h) (by kernel_rfl) HS0 rfl rfl rfl (fun w' hS => ?ha0) ?_
          case ha0 => have q := hS.1; first | (go_simp; rfl) | go_simp
          simp only [List.setIfInBounds_toArray, List.set_cons_zero, List.set_cons_succ]
          refine lx_rd 1 (.pointer (some ⟨lb, 0, none⟩)) (by kernel_rfl) (fun _ _ d _ _ h => by cases d <;> exact h) (by kernel_rfl) HS0 rfl rfl rfl (fun w' hS => ?ha1) ?_
          case ha1 => have q := hS.1; first | (go_simp; rfl) | go_simp
          simp only [List.setIfInBounds_toArray, List.set_cons_zero, List.set_cons_succ]
          refine lx_rd 2 (.agg #[.int .u64 (c3.g : Int), .int .i64 (c3.cnt : Int), .int .i64 (c3.size : Int), .bool c3.loose]) (by kernel_rfl) (fun _ _ d _ _ h => by cases d <;> exact h) (by kernel_rfl) HS0 rfl rfl rfl (fun w' hS => ?ha2) ?_
          case ha2 => have q1 := hS.2.2.1; have q2 := hS.2.2.2.1; have q3 := hS.2.2.2.2.1; have q4 := hS.2.2.2.2.2; first | (go_simp; rfl) | go_simp
          simp only [List.setIfInBounds_toArray, List.set_cons_zero, List.set_cons_succ]
          refine lx_rd 3 (.slice a n cc) (by kernel_rfl) (fun _ _ d _ _ h => by cases d <;> exact h) (by kernel_rfl) HS0 rfl rfl rfl (fun w' hS => ?ha3) ?_
          case ha3 => have q := hS.2.1; first | (go_simp; rfl) | go_simp
          simp only [List.setIfInBounds_toArray, List.set_cons_zero, List.set_cons_succ]
          refine lx_one 4 (by kernel_rfl) (stepT_call 120 ?a4 rfl rfl rfl ?r4 ?_)
          case r4 => first | (go_simp; rfl) | go_simp
          refine (clones_any a n cc rs X7 hRV (by omega) hrl).mono ?_
          rintro e w8 ⟨v8, rfl, hRc8, hb8⟩
          obtain ⟨av, cv, nv8, rfl⟩ : ∃ av cv nv8, v8 = .slice av nv8 cv := by
            obtain ⟨⟨vs, ov, _⟩, _⟩ := hRc8
            obtain ⟨av, cv, e⟩ := own_sl ov
            exact ⟨av, cv, _, e⟩
          have t8 : ∀ p x, X7.cell? p = some x → w8.cell? p = some x := fun p x hx => (hb8.cell (World.block_lt_of_cell? _ _ hx)).trans hx
          have HS8 := And.intro (t8 _ _ HS0.1) (And.intro (t8 _ _ HS0.2.1) (And.intro (t8 _ _ HS0.2.2.1) (And.intro (t8 _ _ HS0.2.2.2.1) (And.intro (t8 _ _ HS0.2.2.2.2.1) (t8 _ _ HS0.2.2.2.2.2)))))
          refine ⟨_, rfl, fun _ => HS8, ?_⟩
          simp only [List.setIfInBounds_toArray, List.set_cons_zero, List.set_cons_succ]
          refine lx_rd 5 (.pointer (some ⟨lb, 0, none⟩)) (by kernel_rfl) (fun _ _ d _ _ h => by cases d <;> exact h) (by kernel_rfl) HS8 rfl rfl rfl (fun w' hS => ?hc5) ?_
          case hc5 => first | (go_simp; rfl) | go_simp
          simp only [List.setIfInBounds_toArray, List.set_cons_zero, List.set_cons_succ]
          refine lx_rd 6 (.pointer (some ⟨lb, 3, none⟩)) (by kernel_rfl) (fun _ _ d _ _ h => by cases d <;> exact h) (by kernel_rfl) HS8 rfl rfl rfl (fun w' hS => ?hc6) ?_
          case hc6 => first | (go_simp; rfl) | go_simp
          simp only [List.setIfInBounds_toArray, List.set_cons_zero, List.set_cons_succ]
          have hL8 := hL7.below hb8
          have hLD8 := hL8.ld _ _ _ _ _ _ _ _ _ _ _ hblb
          have m3 := hLD8.c3
          have m4 := hLD8.c4
          have m5 := hLD8.c5
          have m6 := hLD8.c6
          have f3 := hLD8.fz 3
          have f4 := hLD8.fz 4
          have f5 := hLD8.fz 5
          have f6 := hLD8.fz 6
          have hkS : ∀ (w0 : World) i u, Keep (fun i => i = lb) w0 (w0.setCell ⟨lb, i, none⟩ u) := fun w0 i u => (Keep.refl (fun i => i = lb) w0).setCell (p := ⟨lb, i, none⟩) rfl u
          have hk9 : Keep (fun i => i = lb) w8 ((((w8.setCell ⟨lb, 3, none⟩ (.int .u64 (c3.g : Int))).setCell ⟨lb, 4, none⟩ (.int .i64 (c3.cnt : Int))).setCell ⟨lb, 5, none⟩ (.int .i64 (c3.size : Int))).setCell ⟨lb, 6, none⟩ (.bool c3.loose)) := (((hkS _ _ _).trans (hkS _ _ _)).trans (hkS _ _ _)).trans (hkS _ _ _)
          have hLD9 : LD ((((w8.setCell ⟨lb, 3, none⟩ (.int .u64 (c3.g : Int))).setCell ⟨lb, 4, none⟩ (.int .i64 (c3.cnt : Int))).setCell ⟨lb, 5, none⟩ (.int .i64 (c3.size : Int))).setCell ⟨lb, 6, none⟩ (.bool c3.loose)) F5 lb d l.most v c3 dn5 k5 :=
            (((hLD8.set 3 (.int .u64 (c3.g : Int)) (c' := ⟨c3.g, l.ch.cnt, l.ch.size, l.ch.loose⟩) rfl).set 4 (.int .i64 (c3.cnt : Int)) (c' := ⟨c3.g, c3.cnt, l.ch.size, l.ch.loose⟩) rfl).set 5 (.int .i64 (c3.size : Int)) (c' := ⟨c3.g, c3.cnt, c3.size, l.ch.loose⟩) rfl).set 6 (.bool c3.loose) rfl
          refine lx_one 7 (by kernel_rfl) (stepT_store (w' := (((w8.setCell ⟨lb, 3, none⟩ (.int .u64 (c3.g : Int))).setCell ⟨lb, 4, none⟩ (.int .i64 (c3.cnt : Int))).setCell ⟨lb, 5, none⟩ (.int .i64 (c3.size : Int))).setCell ⟨lb, 6, none⟩ (.bool c3.loose)) rfl rfl rfl ?r7 (fun _ => ?s7) ?_)
          case r7 => first | (go_simp; rfl) | (go_simp; done) | go_simp
          case s7 => exact ⟨hk9.cell (p := ⟨p, 0, none⟩) HS8.1 (by show ¬ p = lb; omega), hk9.cell (p := ⟨p + 1, 0, none⟩) HS8.2.1 (by show ¬ p + 1 = lb; omega), hk9.cell (p := ⟨p + 2, 0, none⟩) HS8.2.2.1 hblb, hk9.cell (p := ⟨p + 2, 1, none⟩) HS8.2.2.2.1 hblb, hk9.cell (p := ⟨p + 2, 2, none⟩) HS8.2.2.2.2.1 hblb, hk9.cell (p := ⟨p + 2, 3, none⟩) HS8.2.2.2.2.2 hblb⟩
          have HS9 := And.intro (hk9.cell (p := ⟨p, 0, none⟩) HS8.1 (by show ¬ p = lb; omega)) (And.intro (hk9.cell (p := ⟨p + 1, 0, none⟩) HS8.2.1 (by show ¬ p + 1 = lb; omega)) (And.intro (hk9.cell (p := ⟨p + 2, 0, none⟩) HS8.2.2.1 hblb) (And.intro (hk9.cell (p := ⟨p + 2, 1, none⟩) HS8.2.2.2.1 hblb) (And.intro (hk9.cell (p := ⟨p + 2, 2, none⟩) HS8.2.2.2.2.1 hblb) (hk9.cell (p := ⟨p + 2, 3, none⟩) HS8.2.2.2.2.2 hblb)))))
          clear m3 m4 m5 m6 f3 f4 f5 f6
          generalize (((w8.setCell ⟨lb, 3, none⟩ (.int .u64 (c3.g : Int))).setCell ⟨lb, 4, none⟩ (.int .i64 (c3.cnt : Int))).setCell ⟨lb, 5, none⟩ (.int .i64 (c3.size : Int))).setCell ⟨lb, 6, none⟩ (.bool c3.loose) = w9 at *
          refine lx_rd 8 (.pointer (some ⟨lb, 0, none⟩)) (by kernel_rfl) (fun _ _ d _ _ h => by cases d <;> exact h) (by kernel_rfl) HS9 rfl rfl rfl (fun w' hS => ?he8) ?_
          case he8 => first | (go_simp; rfl) | go_simp
          simp only [List.setIfInBounds_toArray, List.set_cons_zero, List.set_cons_succ]
          refine lx_rd 9 (.pointer (some ⟨lb, 2, none⟩)) (by kernel_rfl) (fun _ _ d _ _ h => by cases d <;> exact h) (by kernel_rfl) HS9 rfl rfl rfl (fun w' hS => ?he9) ?_
          case he9 => first | (go_simp; rfl) | go_simp
          simp only [List.setIfInBounds_toArray, List.set_cons_zero, List.set_cons_succ]
          have m2 := hLD9.c2
          have f2 := hLD9.fz 2
          refine lx_one 10 (by kernel_rfl) (stepT_store (w' := w9.setCell ⟨lb, 2, none⟩ (.slice av nv8 cv)) rfl rfl rfl ?r10 (fun _ => ?s10) ?_)
          case r10 => first | (go_simp; rfl) | (go_simp; done) | go_simp
          case s10 => exact ⟨(hkS w9 2 (.slice av nv8 cv)).cell (p := ⟨p, 0, none⟩) HS9.1 (by show ¬ p = lb; omega), (hkS w9 2 (.slice av nv8 cv)).cell (p := ⟨p + 1, 0, none⟩) HS9.2.1 (by show ¬ p + 1 = lb; omega), (hkS w9 2 (.slice av nv8 cv)).cell (p := ⟨p + 2, 0, none⟩) HS9.2.2.1 hblb, (hkS w9 2 (.slice av nv8 cv)).cell (p := ⟨p + 2, 1, none⟩) HS9.2.2.2.1 hblb, (hkS w9 2 (.slice av nv8 cv)).cell (p := ⟨p + 2, 2, none⟩) HS9.2.2.2.2.1 hblb, (hkS w9 2 (.slice av nv8 cv)).cell (p := ⟨p + 2, 3, none⟩) HS9.2.2.2.2.2 hblb⟩
          refine lx_nil (by kernel_rfl) ?_
          have hLDa : LD (w9.setCell ⟨lb, 2, none⟩ (.slice av nv8 cv)) F5 lb d l.most (.slice av nv8 cv) c3 dn5 k5 := hLD9.set 2 (.slice av nv8 cv) rfl
          have hka : Keep (fun i => i = lb) w8 (w9.setCell ⟨lb, 2, none⟩ (.slice av nv8 cv)) := hk9.trans (hkS w9 2 (.slice av nv8 cv))
          clear m2 f2 hk9 hLD9 HS9
          generalize w9.setCell ⟨lb, 2, none⟩ (.slice av nv8 cv) = wa at *
          have hs8 := hb8.size
          have hsa := hka.size
          have hF5l := hL5.L.D.lt
          have hs56 := hb6.size
          have r0 := (hka.cell (p := ⟨p, 0, none⟩) HS8.1 (by show ¬ p = lb; omega))
          have w8o := box_below u2D hb8
          have hao := box_keep w8o hka (show ¬ o = lb by omega)
          have r1 : wa.cell? ⟨o, 0, none⟩ = some (.int .u64 (l.ch.g : Int)) := by rw [cell_of_block hao]; rfl
          have r2 : wa.cell? ⟨o, 1, none⟩ = some (.int .i64 (l.ch.cnt : Int)) := by rw [cell_of_block hao]; rfl
          have r3 : wa.cell? ⟨o, 2, none⟩ = some (.int .i64 (l.ch.size : Int)) := by rw [cell_of_block hao]; rfl
          have r4 : wa.cell? ⟨o, 3, none⟩ = some (.bool l.ch.loose) := by rw [cell_of_block hao]; rfl
          have hPa : Pf wa F5 lb := (hP7.below hb8).next (hka.mono (fun i hi => Or.inr hi)) (fun i hi => Or.inl hi)
          have hrs := remSegs_any wa F5 lb d l.most (.slice av nv8 cv) c3 dn5 k5 l.ch 0 hLDa hPa (by omega) (by omega) (by omega)
          rw [Nat.sub_zero] at hrs
          unfold chs at hrs
          have zz : ((0 + 1 : Nat) : Int) = 1 := rfl
          rw [zz] at hrs
          have hres : R = ((remC l.ch dn5 k5).1, ⟨l.most, rs, c3, (remC l.ch dn5 k5).2.1⟩, (remC l.ch dn5 k5).2.2) := by rw [← h4R]; unfold rb4L; rw [if_neg (by simp)]
          unfold remC at hres
          clear h4R
          have hkall : Keep (fun i => F i ∨ H i ∨ i = lb) w wa := (((((Keep.ofBelow hBX).andThen hk5 (fun i hi hs => by
            rcases hs with hs | hs | hs
            · exact Or.inl hs
            · exact Or.inr (Or.inr hs)
            · omega)).trans (Keep.ofBelow hb6)).trans (Keep.ofBelow hbD)).trans (Keep.ofBelow hb8)).trans (hka.mono (fun i hi => Or.inr (Or.inr hi)))
          have hRca : RcA wa (fun i => X7.heap.size ≤ i ∧ i < w8.heap.size) (.slice av nv8 cv) rs := hRc8.keep hka (fun i hi e => by subst e; omega) (fun _ h => h)
          have hfinal : ∀ wz dz kz, Lp wa F5 lb d l.most (.slice av nv8 cv) c3 dz kz wz → Lgp w F H lb d ⟨l.most, rs, c3, dz⟩ kz wz := fun wz dz kz hp => by
            obtain ⟨Fz, hLz, hkz, hFz⟩ := hp
            have hsz := hkz.size
            refine ⟨Fz, fun i => X7.heap.size ≤ i ∧ i < w8.heap.size, ⟨⟨.slice av nv8 cv, hLz, hRca.keep hkz (fun i hi hs => ?_) (fun _ h => h)⟩, fun i hi hf => ?_, fun hh => by omega, fun i hi => by omega, hPa.next hkz hFz, fun i hi => by omega⟩, hkall.andThen hkz (fun i hi hs => ?_), fun i hi => ?_, fun i hi => Or.inr (by omega)⟩
            · rcases hs with hs | hs
              · have := hF5l i hs; omega
              · omega
            · rcases hFz i hf with h9 | h9
              · have := hF5l i h9; omega
              · omega
            · rcases hs with hs | hs
              · rcases hF5 i hs with h9 | h9
                · exact Or.inl h9
                · omega
              · exact Or.inr (Or.inr hs)
            · rcases hFz i hi with h9 | h9
              · exact (hF5 i h9).imp id (fun h => by omega)
              · exact Or.inr (by have := hkall.size; omega)
          obtain ⟨Q, HQ⟩ : ∃ Q, remAll (segs l.ch.g 0 l.ch.cnt) dn5 k5 = Q := ⟨_, rfl⟩
          rw [HQ] at hrs hres
          clear HQ
          obtain ⟨ez, dz, kz⟩ := Q
          dsimp only at hrs hres
          subst hres
          by_cases h0z : ez = 0
          · subst h0z
            go_wp2_with (first
              | (go_at_call 112; refine (hrs.mono (fun e w' h => And.intro (h.1.elim (fun k => k.2) (fun k => absurd rfl k.1)) h.2 : ∀ e w', _ → (e = .returned (.tuple #[]) ∧ _))).mono ?_; rintro e wz ⟨rfl, hpz⟩))
            go_end0
            exact ⟨Or.inl ⟨rfl, rfl⟩, hfinal wz dz kz hpz⟩
          · go_wp2_with (first
              | (go_at_call 112; refine (hrs.mono (fun e w' h => And.intro (h.1.elim (fun k => absurd k.1 h0z) (fun k => k.2)) h.2 : ∀ e w', _ → (e = .panicked (gaveS ez) ∧ _))).mono ?_; rintro e wz ⟨rfl, hpz⟩))
            exact ⟨rfl, gs_no h0z rfl, hfinal wz dz kz hpz⟩
        · have hres : R = (e5, ⟨l.most, l.recs, l.ch, dn5⟩, k5) := by rw [← h4R]; unfold rb4L; rw [if_pos h05]
          subst hres
          go_wp2_with (first
            | (go_at_call 117; refine (hsr.mono (fun e w' h => And.intro (h.1.elim (fun k => absurd k.1 h05) (fun k => k.2)) h.2 : ∀ e w', _ → (e = .panicked (gaveS e5) ∧ _))).mono ?_; rintro e w5 ⟨rfl, hp5⟩))
          exact ⟨rfl, gs_no h05 rfl, h.ofC' hRc hBX hbl hPb hlb (Lcp.next hk4 hF4 (hL4.lp _ _ _ _ _ _ _ _ _ _ _ hblb hp5))⟩
      · have hres : R = (e4, ⟨l.most, l.recs, l.ch, dn4⟩, k4) := by rw [← h3R]; unfold rb3L; rw [if_pos h04]
        subst hres
        go_wp2_with (first
          | (go_at_call 104; refine (hsy.mono (fun e w' h => And.intro (h.1.elim (fun k => absurd k.1 h04) (fun k => k.2)) h.2 : ∀ e w', _ → (e = .panicked (gaveS e4) ∧ _))).mono ?_; rintro e w4 ⟨rfl, hp4⟩))
        exact ⟨rfl, gs_no h04 rfl, h.ofC' hRc hBX hbl hPb hlb (Lcp.next hk3 hF3 (hL3.lp _ _ _ _ _ _ _ _ _ _ _ hblb hp4))⟩
    · have hres : R = (e3, ⟨l.most, l.recs, l.ch, dn3⟩, k3) := by rw [← h2R]; unfold rb2L; rw [if_pos h03]
      subst hres
      go_wp2_with (first
        | (go_at_call 108; refine (hr2.mono (fun e w' h => And.intro (h.1.elim (fun k => absurd k.1 h03) (fun k => k.2)) h.2 : ∀ e w', _ → (e = .panicked (gaveS e3) ∧ _))).mono ?_; rintro e w3 ⟨rfl, hp3⟩))
      exact ⟨rfl, gs_no h03 rfl, h.ofC' hRc hBX hbl hPb hlb (Lcp.next hk2 hF2 hp3)⟩
  · have hres : R = (e2, ⟨l.most, l.recs, l.ch, dn2⟩, k2) := by rw [← h1R]; unfold rb1L; rw [if_pos h02]
    subst hres
    go_wp2_with (first
      | (go_at_call 108; refine (hr1.mono (fun e w' h => And.intro (h.1.elim (fun k => absurd k.1 h02) (fun k => k.2)) h.2 : ∀ e w', _ → (e = .panicked (gaveS e2) ∧ _))).mono ?_; rintro e w2 ⟨rfl, hp2⟩))
    exact ⟨rfl, gs_no h02 rfl, h.ofC' hRc hBX hbl hPb hlb hp2⟩

end Go.Proofs.YtikkieaokfailaaGreatDoor

/- LogSwitch, its plain part: what a Rebase leaves, wherever the power fails. -/
namespace Go.Proofs.YtikkieaokfailaaGreatDoor
open Go.RowKit Go.Joins

theorem pass_room (k : Dk) : (passK k).2.room = k.room := by
  unfold passK
  split <;> rfl
theorem app_room (k : Dk) (s : Nm) (xs : List Int) : (appK k s xs).2.room = k.room := by
  unfold appK
  split
  · rfl
  · split
    · rfl
    · split
      · rfl
      · exact pass_room _
theorem step_room (k : Dk) (s : Nm) (err : Fle → Nat) (go : Dk → Fle → Dk) (h : ∀ k f, (go k f).room = k.room) : (stepK k s err go).2.room = k.room := by
  unfold stepK
  split
  · rfl
  · split
    · rfl
    · split
      · rfl
      · split
        · rfl
        · split
          · exact pass_room _
          · show (go _ _).room = _
            rw [h]
            exact pass_room _
theorem sync_room (k : Dk) (s : Nm) : (syncK k s).2.room = k.room := step_room _ _ _ _ (fun _ _ => rfl)
theorem remove_room (k : Dk) (s : Nm) : (removeK k s).2.room = k.room := step_room _ _ _ _ (fun _ _ => rfl)
theorem rename_room (k : Dk) (s t : Nm) : (renameK k s t).2.room = k.room := by
  unfold renameK
  split
  · rfl
  · split
    · rfl
    · exact step_room _ _ _ _ (fun _ _ => rfl)
theorem stp_room (dn : Bool) (k : Dk) (r : Nat × Dk) (h : r.2.room = k.room) : (stp dn k r).2.2.room = k.room := by
  unfold stp
  split
  · rfl
  · exact h
theorem settle_room (c : Ch) (dn : Bool) (k : Dk) : (settleL c dn k).2.2.2.room = k.room := by
  unfold settleL
  split
  · exact stp_room _ _ _ (sync_room _ _)
  · rfl
theorem putS_room (i sz : Nat) (c : Ch) (b : List Int) (dn : Bool) (k : Dk) : (putS i sz c b dn k).2.2.2.room = k.room := stp_room _ _ _ (app_room _ _ _)
theorem lay_room (most : Nat) (c : Ch) (b : List Int) (dn : Bool) (k : Dk) : (layL most c b dn k).2.2.2.room = k.room := by
  unfold layL
  split
  · split
    · exact settle_room _ _ _
    · rw [putS_room, settle_room]
  · exact putS_room _ _ _ _ _ _
theorem layAll_room (most : Nat) : ∀ (rs : List (List Int)) (c : Ch) (dn : Bool) (k : Dk), (layAllL most rs c dn k).2.2.2.room = k.room
  | [], c, dn, k => settle_room c dn k
  | r :: rs, c, dn, k => by
    unfold layAllL
    split
    · exact lay_room _ _ _ _ _
    · rw [layAll_room most rs, lay_room]
theorem remAll_room : ∀ (ns : List Nm) (dn : Bool) (k : Dk), (remAll ns dn k).2.2.room = k.room
  | [], _, _ => rfl
  | s :: ns, dn, k => by
    unfold remAll
    split
    · exact stp_room _ _ _ (remove_room _ _)
    · rw [remAll_room ns, stp_room _ _ _ (remove_room _ _)]
theorem remC_room (c : Ch) (dn : Bool) (k : Dk) : (remC c dn k).2.2.room = k.room := remAll_room _ _ _
theorem back2_room (c : Ch) (dn : Bool) (k : Dk) : (back2 c dn k).2.2.room = k.room := by
  unfold back2
  split
  · exact remC_room _ _ _
  · unfold remNewL
    split
    · rw [stp_room _ _ _ (remove_room _ _), remC_room]
    · exact remC_room _ _ _
theorem room1_room (x : Nat × Ch × Bool × Dk) : (room1 x).2.2.2.room = x.2.2.2.room := by
  unfold room1 ifRoomL
  split
  · exact remC_room _ _ _
  · rfl
theorem room2_room (x : Nat × Ch × Bool × Dk) : (room2 x).2.2.2.room = x.2.2.2.room := by
  unfold room2 ifRoomL
  split
  · exact back2_room _ _ _
  · rfl
theorem rebase_room (l : Lg) (k : Dk) (rs : List (List Int)) : (rebaseL l k rs).2.2.room = k.room := by
  unfold rebaseL rb1L
  split
  · rw [room1_room, layAll_room]
  · unfold rb2L
    split
    · rw [room2_room]
      show (stp _ _ _).2.2.room = _
      rw [stp_room _ _ _ (app_room _ _ _), room1_room, layAll_room]
    · unfold rb3L
      have hb : ∀ x : Nat × Ch × Bool × Dk, (room2 (wrB x.2.1 x.2.2.1 x.2.2.2)).2.2.2.room = x.2.2.2.room := fun x => by
        rw [room2_room]
        show (stp _ _ _).2.2.room = _
        exact stp_room _ _ _ (app_room _ _ _)
      split
      · rw [stp_room _ _ _ (sync_room _ _), hb, room1_room, layAll_room]
      · unfold rb4L
        split
        · rw [stp_room _ _ _ (rename_room _ _ _), stp_room _ _ _ (sync_room _ _), hb, room1_room, layAll_room]
        · show (remC _ _ _).2.2.room = _
          rw [remC_room, stp_room _ _ _ (rename_room _ _ _), stp_room _ _ _ (sync_room _ _), hb, room1_room, layAll_room]
/-- How many steps a Rebase takes, and how many files it makes. -/
theorem rebase_gr (l : Lg) (k : Dk) (rs : List (List Int)) : (rebaseL l k rs).2.2.steps ≤ k.steps + 4 * rs.length + l.ch.cnt + 10 ∧ (rebaseL l k rs).2.2.fs.length ≤ k.fs.length + 2 * rs.length + 10 := by
  obtain ⟨a1, a2, a3, a4⟩ := layAll_gr l.most rs ⟨l.ch.g + 1, 0, 0, false⟩ l.dn k
  obtain ⟨b1, b2, b3⟩ := room1_gr (layAllL l.most rs ⟨l.ch.g + 1, 0, 0, false⟩ l.dn k)
  unfold rebaseL
  generalize layAllL l.most rs ⟨l.ch.g + 1, 0, 0, false⟩ l.dn k = L0 at *
  dsimp only at a4
  rw [show max 0 1 = 1 from rfl] at a4
  obtain ⟨Y, hY⟩ : ∃ Y, room1 L0 = Y := ⟨_, rfl⟩
  rw [hY] at b1 b2 b3 ⊢
  obtain ⟨c1, c2, c3⟩ := room2_gr Y.2.1 Y.2.2.1 Y.2.2.2
  rw [b3] at c1
  unfold rb1L
  split
  · exact ⟨by dsimp only; omega, by dsimp only; omega⟩
  · obtain ⟨Z, hZ⟩ : ∃ Z, room2 (wrB Y.2.1 Y.2.2.1 Y.2.2.2) = Z := ⟨_, rfl⟩
    rw [hZ] at c2 c3 ⊢
    rw [← b3, hZ] at c1
    rw [b3] at c1
    have d1 := stp_gr Z.2.2.1 Z.2.2.2 (syncK Z.2.2.2 sNew) (sync_gr _ _).1
    have d2 := stp_fl Z.2.2.1 Z.2.2.2 (syncK Z.2.2.2 sNew) (sync_gr _ _).2
    unfold rb2L
    split
    · exact ⟨by dsimp only; omega, by dsimp only; omega⟩
    · generalize stp Z.2.2.1 Z.2.2.2 (syncK Z.2.2.2 sNew) = V at *
      have e1 := stp_gr V.2.1 V.2.2 (renameK V.2.2 sNew sBase) (rename_gr _ _ _).1
      have e2 := stp_fl V.2.1 V.2.2 (renameK V.2.2 sNew sBase) (rename_gr _ _ _).2
      unfold rb3L
      split
      · exact ⟨by dsimp only; omega, by dsimp only; omega⟩
      · generalize stp V.2.1 V.2.2 (renameK V.2.2 sNew sBase) = U at *
        obtain ⟨f1, f2⟩ := remC_gr l.ch U.2.1 U.2.2
        unfold rb4L
        split
        · exact ⟨by dsimp only; omega, by dsimp only; omega⟩
        · exact ⟨by dsimp only; omega, by dsimp only; omega⟩

/-- Removing files that are there: done, or the power fails. -/
theorem remove_or {k : Dk} (on : k.off = false) (hg : k.Good) {s : Nm} (hs : (look k.fs s).isSome = true) : ∃ k', ((removeK k s = (0, k') ∧ k'.off = false ∧ k'.fs = dropL k.fs s) ∨ (removeK k s = (13, k') ∧ k'.fs = k.fs)) ∧ k'.Good := by
  obtain ⟨f, hf⟩ := Option.isSome_iff_exists.1 hs
  have hnm := (look_good hg hf).1
  have hgp := good_pass hg
  obtain ⟨k1, hp, hfs, hr, hst, hn⟩ := pass_or k
  rcases hp with ⟨hp, ho⟩ | ⟨hp, hfu⟩
  · rw [hp] at hgp
    refine ⟨{ k1 with fs := dropL k1.fs s }, Or.inl ⟨?_, by show k1.off = false; rw [ho, on], by show dropL k1.fs s = _; rw [hfs]⟩, good_drop hgp s⟩
    unfold removeK stepK
    rw [on, if_neg (by decide), if_neg (by rw [hnm]; decide), hf]
    dsimp only
    rw [if_neg (by simp), hp, if_neg (by simp)]
  · rw [hp] at hgp
    refine ⟨k1, Or.inr ⟨?_, hfs⟩, hgp⟩
    unfold removeK stepK
    rw [on, if_neg (by decide), if_neg (by rw [hnm]; decide), hf]
    dsimp only
    rw [if_neg (by simp), hp, if_pos (by simp)]
theorem remAll_or : ∀ (ns : List Nm) (k : Dk), k.off = false → k.Good → (∀ s ∈ ns, (look k.fs s).isSome = true) → ns.Nodup → ∃ en dn' k', remAll ns false k = (en, dn', k') ∧ (en = 0 ∨ en = 13) ∧ k'.Good ∧ ∀ s, s ∉ ns → look k'.fs s = look k.fs s
  | [], k, _, hg, _, _ => ⟨0, false, k, rfl, Or.inl rfl, hg, fun s _ => rfl⟩
  | s :: ns, k, on, hg, hs, hn => by
    have hn' := List.pairwise_cons.1 hn
    obtain ⟨k1, hc, r4⟩ := remove_or on hg (hs s (List.mem_cons_self ..))
    rcases hc with ⟨r1, r2, r5⟩ | ⟨r1, r5⟩
    · obtain ⟨en, dn', k2, q1, q2, q4, q5⟩ := remAll_or ns k1 r2 r4 (fun t ht => by
        rw [r5, look_drop, if_neg (fun e => hn'.1 t ht e.symm)]
        exact hs t (List.mem_cons_of_mem _ ht)) hn'.2
      refine ⟨en, dn', k2, by rw [remAll_ok (stp_ok r1)]; exact q1, q2, q4, fun t ht => ?_⟩
      rw [q5 t (fun h => ht (List.mem_cons_of_mem _ h)), r5, look_drop, if_neg (fun e => ht (by rw [e]; exact List.mem_cons_self ..))]
    · exact ⟨13, true, k1, remAll_no (stp_13 r1) (by decide), Or.inr rfl, r4, fun t _ => by rw [r5]⟩

theorem room1_ne {x : Nat × Ch × Bool × Dk} (h : x.1 ≠ 8) : room1 x = x := by
  unfold room1 ifRoomL
  rw [if_neg h]
theorem room2_ne {x : Nat × Ch × Bool × Dk} (h : x.1 ≠ 8) : room2 x = x := by
  unfold room2 ifRoomL
  rw [if_neg h]
theorem rb1_no {l : Lg} {rs : List (List Int)} {en : Nat} {c : Ch} {dn : Bool} {k : Dk} (h : en ≠ 0) : rb1L l rs (en, c, dn, k) = (en, ⟨l.most, l.recs, l.ch, dn⟩, k) := by
  unfold rb1L
  rw [if_pos h]
theorem rb1_ok {l : Lg} {rs : List (List Int)} {c : Ch} {dn : Bool} {k : Dk} : rb1L l rs (0, c, dn, k) = rb2L l rs (room2 (wrB c dn k)) := by
  unfold rb1L
  rw [if_neg (by simp)]
theorem rb2_no {l : Lg} {rs : List (List Int)} {en : Nat} {c : Ch} {dn : Bool} {k : Dk} (h : en ≠ 0) : rb2L l rs (en, c, dn, k) = (en, ⟨l.most, l.recs, l.ch, dn⟩, k) := by
  unfold rb2L
  rw [if_pos h]
theorem rb2_ok {l : Lg} {rs : List (List Int)} {c : Ch} {dn : Bool} {k : Dk} : rb2L l rs (0, c, dn, k) = rb3L l rs c (stp dn k (syncK k sNew)) := by
  unfold rb2L
  rw [if_neg (by simp)]
/-- What is opened behind a Rebase that may have been cut short. -/
theorem switch {l : Lg} {k : Dk} {a rs : List (List Int)} (hI : KI l k a a.length) (hlo : l.ch.loose = false) (ha : a.length ≤ 12) (hrs : rs.length ≤ 12) (hr : ∀ r ∈ rs, r.length ≤ 200 ∧ Bd r) :
    ∃ S1 S2 : List (List (List Int)), S1.flatten = a ∧ (((rebaseL l k rs).1 = 0 ∧ Gn (rebaseL l k rs).2.2 2 S2 ∧ S2.flatten = rs) ∨ ((rebaseL l k rs).1 = 13 ∧ (Gn (rebaseL l k rs).2.2 1 S1 ∨ (Gn (rebaseL l k rs).2.2 2 S2 ∧ S2.flatten = rs)))) := by
  have hC := hI.c
  have hus := hC.us
  have hro := hC.room
  -- the old generation
  obtain ⟨S1, hS1, hG1, hcnt, honly⟩ : ∃ S1 : List (List (List Int)), S1.flatten = a ∧ Gn k 1 S1 ∧ l.ch.cnt = S1.length ∧ (∀ s f, look k.fs s = some f → ∃ j, j < S1.length ∧ s = segN 1 (j + 1)) := by
    have hbn : ∀ {n : Nat} {B : Nat → List Int} {Z : Nat → Nat}, Sh k n B Z → look k.fs sBase = none := fun hs => by
      cases hl : look k.fs sBase with
      | none => rfl
      | some f => obtain ⟨j, _, e⟩ := hs.only _ _ hl; exact absurd e (base_ne _ _)
    rcases hC.ex with ⟨e1, e2, e3, e4, e5, e6⟩ | ⟨T, s, z, e1, e2, e3, e4, e5, e6, e7⟩
    · exact ⟨[], by rw [e4]; rfl, ⟨e6.good, by decide, Or.inl ⟨rfl, hbn e6⟩, (fun j hj => by cases hj), e6.no, (fun t ht => by cases ht), by simp⟩, e1, fun s f hs => by obtain ⟨j, hj, _⟩ := e6.only s f hs; omega⟩
    · have hlT : (T ++ [s]).length = T.length + 1 := by simp
      have hz := e3 hlo
      refine ⟨T ++ [s], by rw [List.flatten_append, List.flatten_singleton]; exact e4, ⟨e6.good, by decide, Or.inl ⟨rfl, hbn e6⟩, fun j hj => ?_, by rw [hlT]; exact e6.no, fun t ht r hr => ?_, by rw [hlT]; exact e6.few⟩, by rw [hlT]; exact e1, fun s' f hs => by rw [hlT]; exact e6.only s' f hs⟩
      · rw [hlT] at hj
        rw [e6.yes j hj, getD_snoc]
        unfold KB KZ
        by_cases e : j < T.length
        · rw [if_pos e, if_pos e, if_pos e]
        · rw [if_neg e, if_neg e, if_neg e, if_pos (by omega), hz]
      · have : r ∈ a := by
          rw [← e4]
          rcases List.mem_append.1 ht with h1 | h1
          · exact List.mem_append_left _ (List.mem_flatten.2 ⟨t, h1, hr⟩)
          · rw [List.mem_singleton.1 h1] at hr
            exact List.mem_append_right _ hr
        have := hC.rl r this
        omega
  have h21 : ∀ i j, segN 1 i ≠ segN 2 j := fun i j e => by have := (segN_inj2 e).1; omega
  have hO2 : ∀ j, look k.fs (segN 2 (j + 1)) = none := fun j => by
    cases hl : look k.fs (segN 2 (j + 1)) with
    | none => rfl
    | some f => obtain ⟨i, _, e⟩ := honly _ _ hl; exact absurd e.symm (h21 _ _)
  have hON : look k.fs sNew = none := by
    cases hl : look k.fs sNew with
    | none => rfl
    | some f => obtain ⟨i, _, e⟩ := honly _ _ hl; exact absurd e (new_ne _ _)
  have hK0 : KG 2 (fun s => look k.fs s) 12 (used k.fs) ⟨2, 0, 0, false⟩ k [] := ⟨rfl, hC.on, by simp, by omega, Or.inl ⟨rfl, rfl, rfl, rfl, ⟨hG1.good, by omega, fun j hj => by omega, fun j _ => hO2 j, fun s _ => rfl⟩⟩⟩
  obtain ⟨en, c1, dn1, k1, p1, p2⟩ := KG.layAll (g := 2) (by decide) 64 (by omega) rs hK0 (by simpa using hrs) hr
  rw [List.nil_append] at p2
  have hg1 : l.ch.g = 1 := hC.g
  have hE : rebaseL l k rs = rb1L l rs (room1 (en, c1, dn1, k1)) := by
    unfold rebaseL
    rw [hI.most, hg1, hI.dn, p1]
  have hold : ∀ {k' : Dk}, k'.Good → (∀ s, (∀ j, s ≠ segN 2 (j + 1)) → s ≠ sNew → look k'.fs s = look k.fs s) → Gn k' 1 S1 := fun hg h => hG1.of hg (fun s hs => by
    rcases hs with rfl | ⟨j, rfl⟩
    · exact h _ (fun j => base_ne _ _) (by decide)
    · exact h _ (fun i => h21 _ _) (fun e => new_ne _ _ e.symm))
  rcases p2 with ⟨rfl, rfl, p2, p3⟩ | ⟨rfl, p2⟩
  rotate_left
  · -- the power failed in the laying
    refine ⟨S1, [], hS1, Or.inr ?_⟩
    have : rebaseL l k rs = (13, ⟨l.most, l.recs, l.ch, dn1⟩, k1) := by
      rw [hE, room1_ne (by simp), rb1_no (by simp)]
    rw [this]
    exact ⟨rfl, Or.inl (hold p2.good (fun s hs _ => p2.rest s hs))⟩
  -- the new generation is laid
  obtain ⟨S2, hS2, hl2, hy2, hn2, hgood1, hrest1⟩ : ∃ S2 : List (List (List Int)), S2.flatten = rs ∧ S2.length ≤ 1000 ∧ (∀ j, j < S2.length → look k1.fs (segN 2 (j + 1)) = some ⟨forms (S2.getD j []), (forms (S2.getD j [])).length⟩) ∧ look k1.fs (segN 2 (S2.length + 1)) = none ∧ k1.Good ∧ (∀ s, (∀ j, s ≠ segN 2 (j + 1)) → look k1.fs s = look k.fs s) := by
    rcases p2.ex with ⟨e1, e2, e3, e4, e6⟩ | ⟨T, s, z, e1, e2, e3, e4, e6, e7⟩
    · exact ⟨[], by rw [e4]; rfl, by simp, (fun j hj => by cases hj), e6.gap 0 (Nat.le_refl _), e6.good, e6.rest⟩
    · have hlT : (T ++ [s]).length = T.length + 1 := by simp
      have hz := e3 p3
      refine ⟨T ++ [s], by rw [List.flatten_append, List.flatten_singleton]; exact e4, by rw [hlT]; exact e6.few, fun j hj => ?_, by rw [hlT]; exact e6.gap _ (Nat.le_refl _), e6.good, e6.rest⟩
      rw [hlT] at hj
      rw [e6.yes j hj, getD_snoc]
      unfold KB KZ
      by_cases e : j < T.length
      · rw [if_pos e, if_pos e, if_pos e]
      · rw [if_neg e, if_neg e, if_neg e, if_pos (by omega), hz]
  refine ⟨S1, S2, hS1, ?_⟩
  have hE2 : rebaseL l k rs = rb2L l rs (room2 (wrB c1 false k1)) := by
    rw [hE, room1_ne (by simp), rb1_ok]
  -- the new base's file is written
  have hNn1 : look k1.fs sNew = none := by rw [hrest1 sNew (fun j => new_ne _ _)]; exact hON
  have hcg : c1.g = 2 := p2.cg
  have hblen := baseL_len 2
  have hu1 := p2.us
  have hr1 := p2.room
  have hup := used_put k1.fs hgood1.rise sNew ⟨baseL 2, 0⟩
  rw [hNn1] at hup
  have hup' : used (putL k1.fs sNew ⟨baseL 2, 0⟩) + 0 = used k1.fs + (baseL 2).length := hup
  obtain ⟨k2, hk2⟩ : ∃ k2 : Dk, ({ k1 with fs := putL k1.fs sNew ⟨baseL 2, 0⟩ } : Dk) = k2 := ⟨_, rfl⟩
  have hroom1 : k1.room = 100000 := by
    have := layAll_room 64 rs ⟨2, 0, 0, false⟩ false k
    rw [p1] at this
    exact this.trans hro
  have hgood2 : k2.Good := by
    rw [← hk2]
    exact good_put hgood1 (by decide) (Nat.zero_le _) (baseL_bd 2) (by omega)
  have hap : appK k1 sNew (baseL 2) = passK k2 := by
    unfold appK
    rw [p2.on, if_neg (by decide), if_neg (by decide), if_neg (by omega), hNn1, ← hk2, p2.on]
    rfl
  have hf2 : k2.fs = putL k1.fs sNew ⟨baseL 2, 0⟩ := by rw [← hk2]
  have ho2 : k2.off = false := by rw [← hk2]; exact p2.on
  have hl2f : ∀ s, s ≠ sNew → look k2.fs s = look k1.fs s := fun s hs => by rw [hf2, look_put _ hgood1.rise, if_neg hs]
  have hlN2 : look k2.fs sNew = some ⟨baseL 2, 0⟩ := by rw [hf2, look_put _ hgood1.rise, if_pos rfl]
  obtain ⟨k3, hp3, hf3, _, _, _⟩ := pass_or k2
  have hgood3 := good_pass hgood2
  rcases hp3 with ⟨hp3, ho3⟩ | ⟨hp3, _⟩
  rotate_left
  · rw [hp3] at hgood3 hap
    have : rebaseL l k rs = (13, ⟨l.most, l.recs, l.ch, true⟩, k3) := by
      rw [hE2]
      unfold wrB
      rw [hcg, stp_13 hap, room2_ne (by simp), rb2_no (by simp)]
    rw [this]
    exact Or.inr ⟨rfl, Or.inl (hold hgood3 (fun s hs hn => by rw [hf3, hl2f s hn]; exact hrest1 s hs))⟩
  rw [hp3] at hgood3 hap
  have hE3 : rebaseL l k rs = rb3L l rs c1 (stp false k3 (syncK k3 sNew)) := by
    rw [hE2]
    unfold wrB
    rw [hcg, stp_ok hap, room2_ne (by simp), rb2_ok]
  -- it is synced
  have hlN3 : look k3.fs sNew = some ⟨baseL 2, 0⟩ := by rw [hf3]; exact hlN2
  obtain ⟨k4, hc4, hgood4, _, _, _, _⟩ := step_or hgood3 (ho3.trans ho2) sNew (by decide) ⟨baseL 2, 0⟩ hlN3 (fun _ => 0) rfl ⟨baseL 2, 12⟩ (by show 12 ≤ (baseL 2).length; omega) (baseL_bd 2) (Nat.le_refl _)
  have he4 : syncK k3 sNew = stepK k3 sNew (fun _ => 0) (fun k _ => { k with fs := putL k.fs sNew ⟨baseL 2, 12⟩ }) := by
    unfold syncK stepK
    rw [hlN3]
    dsimp only
    rw [hblen]
  rw [← he4] at hc4
  rcases hc4 with ⟨q1, q2, q3⟩ | ⟨q1, _, q3⟩
  rotate_left
  · have : rebaseL l k rs = (13, ⟨l.most, l.recs, l.ch, true⟩, k4) := by
      rw [hE3, stp_13 q1]
      unfold rb3L
      rw [if_pos (by simp)]
    rw [this]
    exact Or.inr ⟨rfl, Or.inl (hold hgood4 (fun s hs hn => by rw [q3, hf3, hl2f s hn]; exact hrest1 s hs))⟩
  have hE4 : rebaseL l k rs = rb4L l rs c1 (stp false k4 (renameK k4 sNew sBase)) := by
    rw [hE3, stp_ok q1]
    unfold rb3L
    rw [if_neg (by simp)]
  have hl4 : ∀ s, s ≠ sNew → look k4.fs s = look k1.fs s := fun s hs => by rw [q3, look_put _ hgood3.rise, if_neg hs, hf3]; exact hl2f s hs
  have hlN4 : look k4.fs sNew = some ⟨baseL 2, 12⟩ := by rw [q3, look_put _ hgood3.rise, if_pos rfl]
  -- it is renamed
  obtain ⟨k5, hp5, hf5, _, _, _⟩ := pass_or k4
  have hgood5 := good_pass hgood4
  have hren : renameK k4 sNew sBase = if (passK k4).1 ≠ 0 then passK k4 else (0, { (passK k4).2 with fs := putL (dropL (passK k4).2.fs sNew) sBase ⟨baseL 2, 12⟩ }) := by
    unfold renameK stepK
    rw [q2, if_neg (by decide), if_neg (by decide), if_neg (by decide), if_neg (by decide), hlN4]
    dsimp only
    rw [if_neg (by simp)]
  rcases hp5 with ⟨hp5, ho5⟩ | ⟨hp5, _⟩
  rotate_left
  · rw [hp5] at hgood5 hren
    rw [if_pos (by simp)] at hren
    have : rebaseL l k rs = (13, ⟨l.most, l.recs, l.ch, true⟩, k5) := by
      rw [hE4, stp_13 hren]
      unfold rb4L
      rw [if_pos (by simp)]
    rw [this]
    exact Or.inr ⟨rfl, Or.inl (hold hgood5 (fun s hs hn => by rw [hf5, hl4 s hn]; exact hrest1 s hs))⟩
  rw [hp5] at hgood5 hren
  rw [if_neg (by simp)] at hren
  dsimp only at hren
  obtain ⟨k6, hk6⟩ : ∃ k6 : Dk, ({ k5 with fs := putL (dropL k5.fs sNew) sBase ⟨baseL 2, 12⟩ } : Dk) = k6 := ⟨_, rfl⟩
  rw [hk6] at hren
  have hB4 : look k4.fs sBase = none := by
    rw [hl4 sBase (by decide), hrest1 sBase (fun j => base_ne _ _)]
    rcases hG1.base with ⟨_, e⟩ | e
    · exact e
    · cases hl : look k.fs sBase with
      | none => rfl
      | some f => obtain ⟨i, _, e⟩ := honly _ _ hl; exact absurd e (base_ne _ _)
  have hrd := rise_drop hgood5.rise sNew
  have hud := used_drop k5.fs hgood5.rise sNew
  have hlN5 : look k5.fs sNew = some ⟨baseL 2, 12⟩ := by rw [hf5]; exact hlN4
  rw [hlN5] at hud
  have hud' : used (dropL k5.fs sNew) + (baseL 2).length = used k5.fs := hud
  have hup6 := used_put (dropL k5.fs sNew) hrd sBase ⟨baseL 2, 12⟩
  have hup6' : used (putL (dropL k5.fs sNew) sBase ⟨baseL 2, 12⟩) + lenO (look (dropL k5.fs sNew) sBase) = used (dropL k5.fs sNew) + (baseL 2).length := hup6
  have hgood6 : k6.Good := by
    rw [← hk6]
    have hg5 := good_drop hgood5 sNew
    exact good_put hg5 (by decide) (by show 12 ≤ (baseL 2).length; omega) (baseL_bd 2) (by
      show used (putL (dropL k5.fs sNew) sBase ⟨baseL 2, 12⟩) ≤ k5.room
      have hg5u : used k5.fs ≤ k5.room := hgood5.used
      have hud'' : used (dropL k5.fs sNew) + (baseL 2).length = used k5.fs := hud
      omega)
  have hf6 : k6.fs = putL (dropL k5.fs sNew) sBase ⟨baseL 2, 12⟩ := by rw [← hk6]
  have ho6 : k6.off = false := by rw [← hk6]; exact ho5.trans q2
  have hl6 : ∀ s, s ≠ sBase → s ≠ sNew → look k6.fs s = look k1.fs s := fun s h1 h2 => by
    rw [hf6, look_put _ hrd, if_neg h1, look_drop, if_neg h2, hf5]
    exact hl4 s h2
  have hlB6 : look k6.fs sBase = some ⟨baseL 2, 12⟩ := by rw [hf6, look_put _ hrd, if_pos rfl]
  have hG2 : Gn k6 2 S2 := ⟨hgood6, by decide, Or.inr hlB6, fun j hj => by rw [hl6 _ (fun e => base_ne _ _ e.symm) (fun e => new_ne _ _ e.symm)]; exact hy2 j hj, by rw [hl6 _ (fun e => base_ne _ _ e.symm) (fun e => new_ne _ _ e.symm)]; exact hn2, fun t ht r hrt => by
    have : r ∈ rs := by rw [← hS2]; exact List.mem_flatten.2 ⟨t, ht, hrt⟩
    have := (hr r this).1
    omega, hl2⟩
  -- the old segments are removed
  obtain ⟨ez, dz, kz, z1, z2, z3, z4⟩ := remAll_or (segs 1 0 S1.length) k6 ho6 hgood6 (fun s hs => by
    obtain ⟨i, hi, e⟩ := mem_segs.1 hs
    rw [e, Nat.zero_add, hl6 _ (fun e => base_ne _ _ e.symm) (fun e => new_ne _ _ e.symm), hrest1 _ (fun j => h21 _ _), hG1.yes i hi]
    rfl) (segs_nodup _ _ _)
  have hfin : rebaseL l k rs = (ez, ⟨l.most, rs, c1, dz⟩, kz) := by
    rw [hE4, stp_ok hren]
    unfold rb4L
    rw [if_neg (by simp)]
    unfold remC
    dsimp only
    rw [hg1, hcnt, z1]
  rw [hfin]
  have hGz : Gn kz 2 S2 := hG2.of z3 (fun s hs => z4 s (fun hm => by
    obtain ⟨i, _, e⟩ := mem_segs.1 hm
    rcases hs with rfl | ⟨j, rfl⟩
    · exact base_ne _ _ e
    · exact h21 _ _ e.symm))
  rcases z2 with rfl | rfl
  · exact Or.inl ⟨rfl, hGz, hS2⟩
  · exact Or.inr ⟨rfl, Or.inr ⟨hGz, hS2⟩⟩

end Go.Proofs.YtikkieaokfailaaGreatDoor

/- seglog's Rebase. -/
namespace Go.Proofs.YtikkieaokfailaaGreatDoor
open Go.RowKit Go.Joins

def bigs (rs : List (List Int)) : Bool := rs.any fun r => decide (1048576 < r.length)
theorem bigs_no {rs : List (List Int)} (h : bigs rs = false) : ∀ r ∈ rs, r.length ≤ 1048576 := fun r hr => by
  unfold bigs at h
  rw [List.any_eq_false] at h
  have := h r hr
  simp at this
  omega
set_option maxHeartbeats 1000000 in
theorem sindex_any (a : Option Addr) (n c : Nat) (rs : List (List Int)) (w : World) (hR : RRd w a n rs) :
    Calls Tryz.prog 107 #[.slice a n c, .func (.func 63) #[] #[]] w fun e w' => ∃ I : Int, e = .returned (.int .i64 I) ∧ (decide (0 ≤ I)) = bigs rs ∧ w' = w := by
  have hnm := hR.most
  have Hn : Hid (rs.length = n) := hR.len
  go_enter Tryz.func107, Tryz.ntmps107
  go_upto_region 2 with fail
  go_loopw [4, 5, 8] (fun s4 _ s8 wr => ∃ j : Nat, s8 = .int .i64 j ∧ s4 = .int .i64 0 ∧ j ≤ n ∧ Hid (∀ i r, i < j → rs[i]? = some r → r.length ≤ 1048576) ∧ wr = w) (fun _ _ s8 _ => n - (intOf s8).toNat)
  case atStart => exact ⟨0, rfl, rfl, by omega, fun i r hi => by omega, rfl⟩
  case round =>
    obtain ⟨j, rfl, rfl, hjn, HJ, hwr⟩ := hrel
    replace hwr := hwr.symm
    subst hwr
    by_cases hlt : j < n
    · have hcl : (j : Int) < (n : Int) := by omega
      obtain ⟨bb, off, rfl, hce⟩ := hR.flat (by omega)
      obtain ⟨aj, nj, cj, hcj, hrj⟩ := hce j hlt
      obtain ⟨r, hr⟩ : ∃ r, rs[j]? = some r := ⟨_, List.getElem?_eq_getElem (by rw [Hn.out]; exact hlt)⟩
      have hrd : rs.getD j [] = r := by rw [List.getD_eq_getElem?_getD, hr]; rfl
      rw [hrd] at hrj
      have hcap := hrj.cap
      have hmx := hrj.most
      have hig := isBig_any aj nj cj w (by unfold maxLen at hmx; omega)
      have hl := hrj.len
      clear hce hrd hrj
      by_cases hb : 1048576 < nj
      · rw [decide_eq_true hb] at hig
        have HE : Hid (bigs rs = true) := by
          show _ = _
          unfold bigs
          rw [List.any_eq_true]
          exact ⟨r, List.mem_of_getElem? hr, by rw [hl]; exact decide_eq_true hb⟩
        clear hr hb hl
        go_wp2_with (first
          | (go_at_call 63; refine hig.mono ?_; rintro e w1 ⟨rfl, h1⟩; replace h1 := h1.symm; subst h1))
        go_ret
        exact ⟨(j : Int), rfl, by rw [HE.out]; exact decide_eq_true (by omega), rfl⟩
      · rw [decide_eq_false hb] at hig
        have HJ2 : Hid (∀ i r, i < j + 1 → rs[i]? = some r → r.length ≤ 1048576) := fun i x hi hx => by
          by_cases e : i < j
          · exact HJ.out i x e hx
          · obtain rfl : i = j := by omega
            rw [hr] at hx
            cases hx
            omega
        clear hr hb hl
        go_wp2_with (first
          | (go_at_call 63; refine hig.mono ?_; rintro e w1 ⟨rfl, h1⟩; replace h1 := h1.symm; subst h1))
        exact ⟨⟨j + 1, by go_num, rfl, by omega, HJ2.out, by first | rfl | trivial⟩, by simp [intOf]; omega⟩
    · have hcl : ¬ (j : Int) < (n : Int) := by omega
      have HE : Hid (bigs rs = false) := by
        show _ = _
        unfold bigs
        rw [List.any_eq_false]
        intro r hr
        obtain ⟨i, hi⟩ := List.getElem?_of_mem hr
        have hil := (List.getElem?_eq_some_iff.1 hi).1
        rw [Hn.out] at hil
        have := HJ.out i r (by omega) hi
        simp
        omega
      go_wp2
      go_ret
      exact ⟨-1, rfl, by rw [HE.out]; rfl, rfl⟩
theorem scontains_any (a : Option Addr) (n c : Nat) (rs : List (List Int)) (w : World) (hR : RRd w a n rs) :
    Calls Tryz.prog 71 #[.slice a n c, .func (.func 63) #[] #[]] w fun e w' => e = .returned (.bool (bigs rs)) ∧ w' = w := by
  have hix := sindex_any a n c rs w hR
  obtain ⟨B, hB⟩ : ∃ B, bigs rs = B := ⟨_, rfl⟩
  rw [hB] at hix ⊢
  clear hB
  go_enter Tryz.func71, Tryz.ntmps71
  go_wp2_with (first
    | (go_at_call 107; refine hix.mono ?_; rintro e w1 ⟨I, rfl, hI, h1⟩; replace h1 := h1.symm; subst h1))
  go_ret
  subst hI
  exact ⟨rfl, rfl⟩

def rebaseT (l : Lg) (k : Dk) (rs : List (List Int)) : Nat × Lg × Dk := if bigs rs = true then (5, l, k) else if l.ch.g = 18446744073709551615 then (14, l, k) else rebaseL l k rs

theorem rebaseC_any (W : World) (F H : Nat → Prop) (lb d bl br : Nat) (l : Lg) (k : Dk) (h : LogAt W F H lb d l k) (hg : l.ch.g < 18446744073709551615) (hcnt : l.ch.cnt ≤ 10000) (hmo : l.most ≤ 1000000000)
    (a : Option Addr) (n cc : Nat) (rs : List (List Int)) (hR : RRd W a n rs) (hnS : RNot W a n (fun i => F i ∨ i = lb ∨ W.heap.size ≤ i)) (hn : n ≤ 10000) (hrl : ∀ r ∈ rs, r.length ≤ 1048576) (hst : k.steps < 900000) (hfl : k.fs.length < 900000)
    (hbl : W.heap[bl]? = some (.cells #[.pointer (some ⟨lb, 0, none⟩)] 48 (0, 0))) (hbr : W.heap[br]? = some (.cells #[.slice a n cc] 30 (0, 0))) :
    Calls Tryz.prog 72 #[.pointer (some ⟨bl, 0, none⟩), .pointer (some ⟨br, 0, none⟩)] W fun e w' => Gs (rebaseL l k rs).1 e ∧ Lgp W F H lb d (rebaseL l k rs).2.1 (rebaseL l k rs).2.2 w' := by
  have hrb := rebase_any W F H lb d l k h hg hcnt hmo a n cc rs hR hnS hn hrl hst hfl
  obtain ⟨P, HP⟩ : ∃ P, rebaseL l k rs = P := ⟨_, rfl⟩
  rw [HP] at hrb ⊢
  clear HP
  obtain ⟨en, l2, k2⟩ := P
  dsimp only at hrb ⊢
  have q1 := box_cell hbl
  have q2 := box_cell hbr
  by_cases h0 : en = 0
  · subst h0
    go_enter Tryz.func72, Tryz.ntmps72
    go_wp2_with (first
      | (go_at_call 73; refine (hrb.mono (fun e w' h => And.intro (h.1.elim (fun k => k.2) (fun k => absurd rfl k.1)) h.2 : ∀ e w', _ → (e = .returned (.tuple #[]) ∧ _))).mono ?_; rintro e w6 ⟨rfl, hp⟩))
    go_end0
    exact ⟨Or.inl ⟨rfl, rfl⟩, hp⟩
  · go_enter Tryz.func72, Tryz.ntmps72
    go_wp2_with (first
      | (go_at_call 73; refine (hrb.mono (fun e w' h => And.intro (h.1.elim (fun k => absurd k.1 h0) (fun k => k.2)) h.2 : ∀ e w', _ → (e = .panicked (gaveS en) ∧ _))).mono ?_; rintro e w6 ⟨rfl, hp⟩))
    exact ⟨rfl, gs_no h0 rfl, hp⟩

set_option maxHeartbeats 1000000 in
theorem srebase_any (w : World) (F H : Nat → Prop) (lb d : Nat) (l : Lg) (k : Dk) (h : LogAt w F H lb d l k) (hg : l.ch.g < 18446744073709551616) (hcnt : l.ch.cnt ≤ 10000) (hmo : l.most ≤ 1000000000)
    (a : Option Addr) (n cc : Nat) (rs : List (List Int)) (hR : RRd w a n rs) (hnS : RNot w a n (fun i => F i ∨ i = lb ∨ w.heap.size ≤ i)) (hn : n ≤ 10000) (hst : k.steps < 900000) (hfl : k.fs.length < 900000) :
    Calls Tryz.prog 29 #[.pointer (some ⟨lb, 0, none⟩), .slice a n cc] w fun e w' => e = .returned (.int .i64 (rebaseT l k rs).1) ∧ Lgp w F H lb d (rebaseT l k rs).2.1 (rebaseT l k rs).2.2 w' := by
  have hmf : ∀ (fn : Fn) (first cap : Array Value) (w : World), (Instr.makeFunc fn first cap).run Tryz.prog w = .ok (.func fn first cap) w := fun _ _ _ _ => rfl
  obtain ⟨W, hW⟩ : ∃ W, (w.alloc (.cells #[.pointer (some ⟨lb, 0, none⟩)] 48)).alloc (.cells #[.slice a n cc] 30) = W := ⟨_, rfl⟩
  have hB : Below w.heap.size w W := by rw [← hW]; exact ((Below.refl _ _).alloc (Nat.le_refl _) _).alloc (by simp) _
  have q0 : W.heap[w.heap.size]? = some (.cells #[.pointer (some ⟨lb, 0, none⟩)] 48 (0, 0)) := by rw [← hW]; exact alloc2_at w _ _
  have q1 : W.heap[w.heap.size + 1]? = some (.cells #[.slice a n cc] 30 (0, 0)) := by rw [← hW]; exact (by simpa using alloc_at (w.alloc (.cells #[.pointer (some ⟨lb, 0, none⟩)] 48)) (.cells #[.slice a n cc] 30))
  have c0 := box_cell q0
  have c1 := box_cell q1
  have hLW := h.below hB
  have hRW := hR.below hB
  obtain ⟨v, hLD, _⟩ := hLW.ex
  have c3 := hLD.c3
  have hct := scontains_any a n cc rs W hRW
  have hws := hB.size
  unfold rebaseT
  by_cases hbig : bigs rs = true
  · rw [if_pos hbig]
    rw [hbig] at hct
    clear hbig
    go_enter Tryz.func29, Tryz.ntmps29
    go_upto_region 1 with fail
    clear hW
    go_wp2_with (first
      | (go_at_call 71; refine hct.mono ?_; rintro e w1 ⟨rfl, h1⟩; replace h1 := h1.symm; subst h1))
    go_ret
    exact ⟨rfl, Lgp.from hB (Lgp.refl hLW)⟩
  · have hbf : bigs rs = false := by simpa using hbig
    rw [if_neg hbig]
    rw [hbf] at hct
    clear hbig
    by_cases hgm : l.ch.g = 18446744073709551615
    · rw [if_pos hgm]
      rw [hgm] at c3
      clear hgm
      go_enter Tryz.func29, Tryz.ntmps29
      go_upto_region 1 with fail
      clear hW
      go_wp2_with (first
        | (go_at_call 71; refine hct.mono ?_; rintro e w1 ⟨rfl, h1⟩; replace h1 := h1.symm; subst h1))
      go_ret
      exact ⟨rfl, Lgp.from hB (Lgp.refl hLW)⟩
    · rw [if_neg hgm]
      have hgz : ((l.ch.g : Int) == 18446744073709551615) = false := by rw [beq_eq_false_iff_ne]; omega
      have hgz2 : ¬ (l.ch.g : Int) = 18446744073709551615 := by omega
      have hnW : RNot W a n (fun i => F i ∨ i = lb ∨ w.heap.size ≤ i) := hnS.keep hR (Keep.ofBelow (S := fun _ => False) hB) ⟨fun _ _ h => h, fun _ _ _ _ _ _ _ _ _ _ _ h => h⟩
      have hA : Calls Tryz.prog 60 #[.func (.func 72) #[] #[.pointer (some ⟨w.heap.size, 0, none⟩), .pointer (some ⟨w.heap.size + 1, 0, none⟩)]] W fun e w' => e = .returned (.int .i64 (rebaseL l k rs).1) ∧ Lgp W F H lb d (rebaseL l k rs).2.1 (rebaseL l k rs).2.2 w' := by
        refine attempt_L _ _ _ W F H lb d l _ k _ hLW (enters_of Tryz.func72 (by kernel_rfl) rfl) (fun hL1 hb1 => ?_)
        have hs1 := hb1.size
        exact rebaseC_any _ F H lb d _ _ l k hL1 (by omega) hcnt hmo a n cc rs (hRW.below hb1) ((hnW.keep hRW (Keep.ofBelow (S := fun _ => False) hb1) ⟨fun _ _ h => h, fun _ _ _ _ _ _ _ _ _ _ _ h => h⟩).mono (fun i hi => hi.elim Or.inl (fun h9 => Or.inr (h9.elim Or.inl (fun h8 => Or.inr (by omega)))))) hn (bigs_no hbf) hst hfl (box_below q0 hb1) (box_below q1 hb1)
      obtain ⟨P, hP⟩ : ∃ P, rebaseL l k rs = P := ⟨_, rfl⟩
      rw [hP] at hA ⊢
      clear hP hLW hRW hbf hgm
      go_enter Tryz.func29, Tryz.ntmps29
      go_upto_region 1 with fail
      clear hW
      go_wp2_with (first
        | (go_at_call 71; refine hct.mono ?_; rintro e w1 ⟨rfl, h1⟩; replace h1 := h1.symm; subst h1)
        | (go_at_call 60; refine hA.mono ?_; rintro e w1 ⟨rfl, hp⟩))
      go_ret
      exact ⟨rfl, hp.from hB⟩

end Go.Proofs.YtikkieaokfailaaGreatDoor

/- Append of a number to a row of the call's own, with its place told; a log where other blocks are written. -/
namespace Go.Proofs.YtikkieaokfailaaGreatDoor
open Go.RowKit Go.Joins

theorem infoInt : (Tryz.prog.info? 3).map (fun i => (i.zero, i.size, i.bytes)) = some (some (.int .i64 0), 1, 8) := by kernel_rfl
set_option maxRecDepth 100000 in
theorem app_whereI {w : World} {base : Nat} {v : Value} {n : Nat} {xs : List Value} (hown : w.ownsRow base 3 1 v n xs) {ad : Addr} {c : Nat} {u : Value} (hu : u.oneCell' = true) (hr : ∀ j x, [u][j]? = some x → w.cell? (ad.add j) = some x) (hb : n ≤ 1000000) {ty : TypeId} {v' : Value} {w' : World}
    (hrun : (Builtin.append_ #[31, 31] ty #[v, .slice (some ad) 1 c]).run Tryz.prog w = .ok v' w') : v'.ownBlock = v.ownBlock ∨ v'.ownBlock = some w.heap.size := by
  obtain ⟨i0, hi, hz0, hz1, hz2⟩ := info_parts infoInt
  have hl : [u].length = 1 * i0.size := by rw [hz1]; rfl
  rcases hown.2 with ⟨rfl, rfl⟩ | ⟨g, cap, cur, rfl, hbg, hg, hnc, hcm, hcs, htake⟩
  · right
    have hr2 := run_append_nil (P := Tryz.prog) w 31 ty 3 i0 (.int .i64 0) Tryz.underlying31 hi hz0 ad 1 c [u] hl hr (by omega) (by omega) (by rw [hz2]; omega)
    rw [hr2] at hrun
    injection hrun with e _
    rw [← e]; rfl
  · by_cases hroom : n + 1 ≤ cap
    · left
      have hr2 := run_append_room (P := Tryz.prog) w 31 ty 3 i0 Tryz.underlying31 hi g n cap cur hg ad 1 c [u] hl hr (by simpa using hu) hroom (by rw [hl, hcs, hz1]; omega)
      rw [hr2] at hrun
      injection hrun with e _
      rw [← e]; rfl
    · right
      have hr2 := run_append_grow (P := Tryz.prog) w 31 ty 3 i0 (.int .i64 0) Tryz.underlying31 hi hz0 ⟨g, 0, none⟩ n cap xs (by rw [hown.1, hz1]) (hown.cells (g := g) rfl) ad 1 c [u] hl hr (by omega) (by omega) (growslice_fits (by omega) (by rw [hz2]; omega))
      rw [hr2] at hrun
      injection hrun with e _
      rw [← e]; rfl
theorem run_appI {w : World} (ty : TypeId) {base : Nat} {v : Value} {n : Nat} {xs : List Value} (hown : w.ownsRow base 3 1 v n xs) (z : Int) (hn : n ≤ 1000000) (hbase : base ≤ w.heap.size) :
    ∃ v' w', (Builtin.append_ #[31, 31] ty #[v, .slice (some ⟨w.heap.size, 0, none⟩) 1 1]).run Tryz.prog (w.alloc (.cells #[.int .i64 z] 3)) = .ok v' w' ∧ w'.ownsRow base 3 1 v' (n + 1) (xs ++ [.int .i64 z]) ∧ Keep (fun k => v.ownBlock = some k) w w' ∧ (v'.ownBlock = v.ownBlock ∨ ∃ g, v'.ownBlock = some g ∧ w.heap.size ≤ g) := by
  obtain ⟨i0, hi, hz0, hz1, hz2⟩ := info_parts infoInt
  have hk0 : Keep (fun k => v.ownBlock = some k) w (w.alloc (.cells #[.int .i64 z] 3)) := (Keep.refl _ _).alloc _
  have hown1 := own_keep (S := fun _ => False) hown ((Keep.refl (fun _ => False) w).alloc (.cells #[.int .i64 z] 3)) (fun _ _ h => h)
  have hnw : ∀ j u, [Value.int .i64 z][j]? = some u → (w.alloc (.cells #[.int .i64 z] 3)).cell? ((⟨w.heap.size, 0, none⟩ : Addr).add j) = some u := fun j u hu => by
    rw [add_flat, Nat.zero_add, cell_of_block (alloc_at w (.cells #[.int .i64 z] 3))]
    simpa using hu
  obtain ⟨v', w', hrun, h2, h3, _⟩ := run_append_own (P := Tryz.prog) (w.alloc (.cells #[.int .i64 z] 3)) base 31 ty 3 i0 (.int .i64 0) 1 8 Tryz.underlying31 hi hz0 hz1 hz2 rfl (by decide) v n xs hown1 ⟨w.heap.size, 0, none⟩ 1 1 [.int .i64 z] (by simp) hnw (by simp [Value.oneCell']) (by unfold maxLen; omega) (by omega) (by simp; omega)
  have h4 := app_whereI hown1 (by simp [Value.oneCell']) hnw hn hrun
  refine ⟨v', w', hrun, h2, hk0.trans (Keep.ofGrown h3), ?_⟩
  rcases h4 with h4 | h4
  · exact Or.inl h4
  · exact Or.inr ⟨_, h4, by simp⟩

theorem wp_app1I {w : World} {ops : Array Oper} {rest : List Oper} {o : Oper} {a : Act} {Q : Exit → Act → World → Prop} (hgd : o.guard = none) (s x : Operand)
    (ho : o.op = .call { callee := .builtin .append, args := #[s, x], argTypes := #[31, 31] })
    (base : Nat) (v : Value) (n : Nat) (xs : List Value) (hs : a.eval s = v) (hown : w.ownsRow base 3 1 v n xs) (z : Int)
    (hx : a.eval x = .slice (some ⟨w.heap.size, 0, none⟩) 1 1) (hn : n ≤ 1000000) (hbase : base ≤ w.heap.size)
    (h : ∀ v' w', w'.ownsRow base 3 1 v' (n + 1) (xs ++ [.int .i64 z]) → Keep (fun k => v.ownBlock = some k) w w' → (v'.ownBlock = v.ownBlock ∨ ∃ g, v'.ownBlock = some g ∧ w.heap.size ≤ g) → wpList Tryz.prog ops Q rest (a.put o.dst v') w') : wpList Tryz.prog ops Q (o :: rest) a (w.alloc (.cells #[.int .i64 z] 3)) := by
  refine wpList_plain hgd fun K hK => ?_
  obtain ⟨v', w', hrun, h2, h3, h4⟩ := run_appI o.type hown z hn hbase
  unfold Oper.wp
  simp only [execOp, ho, resolve, invoke, builtin, Sem.run_bind, Sem.run_pure, Result.andThen_ok, List.map_toArray, List.map_cons, List.map_nil, hs, hx, hrun]
  exact hK _ _ (h v' w' h2 h3 h4)
theorem LogAt.keep {S : Nat → Prop} {w w' : World} {F H : Nat → Prop} {lb d : Nat} {l : Lg} {k : Dk} (h : LogAt w F H lb d l k) (hk : Keep S w w') (hF : ∀ i, F i → ¬ S i) (hH : ∀ i, H i → ¬ S i) (hl : ¬ S lb) (hg : ¬ S 0) : LogAt w' F H lb d l k := by
  obtain ⟨v, h1, h2⟩ := h.ex
  exact ⟨⟨v, h1.keep hk hF hl, h2.keep hk hH (fun _ h => h)⟩, h.hf, h.hl, fun i hi => Nat.lt_of_lt_of_le (h.lt i hi) hk.size, ⟨h.pf.pw.keep hk hg, h.pf.fl, h.pf.ll⟩, h.ph⟩

end Go.Proofs.YtikkieaokfailaaGreatDoor

/- Rows of ints: an argument's, and the law's copy; the struct Tail, opened. -/
namespace Go.Proofs.YtikkieaokfailaaGreatDoor
open Go.ChangeShapes Go.WideShapes Go.ChangeAt Go.RowKit

/-- What a slice of ints reads as. -/
structure IAr (W : World) (a : Option Addr) (n c : Nat) (zs : List Int) : Prop where
  len : zs.length = n
  cap : n ≤ c
  most : c ≤ 9223372036854775807
  nil : a = none → c = 0
  cells : ∀ ad, a = some ad → ∀ j, j < n → W.cell? (ad.add j) = some (.int .i64 (zs.getD j 0))
theorem IAr.carry {W W' : World} {a : Option Addr} {n c : Nat} {zs : List Int} (h : IAr W a n c zs) (hb : Below W.heap.size W W') : IAr W' a n c zs :=
  ⟨h.len, h.cap, h.most, h.nil, fun ad ha j hj => (hb.cell (World.block_lt_of_cell? W _ (h.cells ad ha j hj))).trans (h.cells ad ha j hj)⟩
theorem IAr.take {W : World} {a : Option Addr} {n c : Nat} {zs : List Int} (h : IAr W a n c zs) {k : Nat} (hk : k ≤ n) : IAr W a k c (zs.take k) :=
  ⟨by rw [List.length_take, h.len]; omega, by have := h.cap; omega, h.most, h.nil, fun ad ha j hj => by
    rw [h.cells ad ha j (by omega)]
    simp [List.getD, hj]⟩
theorem iar_nil (W : World) : IAr W none 0 0 [] := ⟨rfl, Nat.le_refl _, by omega, fun _ => rfl, fun _ h => by cases h⟩
theorem iar_of_cells {H : Type} {enc : TypeId × Value → H} {W : World} {v : Value} {n : Nat} {y : DataW H × List MemPlace}
    (h : DataW.trod enc Tryz.prog W 0 (fun _ => true) true n 31 [v] = some y) : ∃ a n c zs, v = .slice a n c ∧ IAr W a n c zs := by
  rcases open_ints Tryz.underlying31 Tryz.underlying3 (by kernel_rfl) h with ⟨hcs, _⟩ | ⟨x, l, cc, zs, hcs, _, hl, hm, hz, _, hcell, hwz⟩
  · simp only [List.cons.injEq, and_true] at hcs
    exact ⟨none, 0, 0, [], hcs, iar_nil W⟩
  · simp only [List.cons.injEq, and_true] at hcs
    have hz' : zs.length = cc := by simpa using hz
    refine ⟨some x, l, cc, zs.take l, hcs, by rw [List.length_take]; omega, hl, hm, (fun h => by cases h), fun ad had j hj => ?_⟩
    cases had
    rw [hcell j (by omega)]
    simp [List.getD, hj]

def ic (zs : List Int) : List Value := zs.map (Value.int .i64)
theorem Tryz.info3 : (Tryz.prog.info? 3).map (fun i => (i.zero, i.size, i.bytes)) = some (some (.int .i64 0), 1, 8) := by kernel_rfl
theorem ic_one (zs : List Int) : ∀ u ∈ ic zs, u.oneCell' = true := by
  intro u hu
  obtain ⟨x, _, rfl⟩ := List.mem_map.1 hu
  rfl

/-- 'append([]int{}, x...)', in the world that was there before the empty slice. -/
theorem wp_app0I {w : World} {ops : Array Oper} {rest : List Oper} {o : Oper} {a : Act} {Q : Exit → Act → World → Prop} (hgd : o.guard = none) (s x : Operand)
    (ho : o.op = .call { callee := .builtin .append, args := #[s, x], argTypes := #[31, 31] })
    (hs : a.eval s = .slice (some ⟨w.heap.size, 0, none⟩) 0 0)
    (ao : Option Addr) (m c : Nat) (zs : List Int) (hx : a.eval x = .slice ao m c) (hr : IAr w ao m c zs) (hb : m ≤ 1000000000)
    (h : ∀ v' w', w'.ownsRow w.heap.size 3 1 v' m (ic zs) → Below w.heap.size w w' → wpList Tryz.prog ops Q rest (a.put o.dst v') w') : wpList Tryz.prog ops Q (o :: rest) a (w.alloc (.cells #[] 3)) := by
  obtain ⟨i0, hi, hz0, hz1, hz2⟩ := info_parts Tryz.info3
  have hown : (w.alloc (.cells #[] 3)).ownsRow w.heap.size 3 1 (.slice (some ⟨w.heap.size, 0, none⟩) 0 0) 0 [] := World.ownsRow_made w #[] 0 (Nat.le_refl _) (by unfold maxLen; omega) rfl
  have hbel : Below w.heap.size w (w.alloc (.cells #[] 3)) := (Below.refl _ _).alloc (Nat.le_refl _) _
  cases ao with
  | none =>
    have hc0 := hr.nil rfl
    have hcm := hr.cap
    obtain rfl : c = 0 := hc0
    obtain rfl : m = 0 := by omega
    have hzs : zs = [] := List.eq_nil_of_length_eq_zero hr.len
    subst hzs
    refine wpList_append_own_none hgd s x 31 ho w.heap.size 3 i0 1 Tryz.underlying31 hi _ 0 [] hs hown hx ?_
    exact h _ _ hown hbel
  | some ad =>
    refine wpList_append_own (w.alloc (.cells #[] 3)) hgd s x 31 ho w.heap.size 3 i0 (.int .i64 0) 1 8 Tryz.underlying31 hi hz0 hz1 hz2 rfl (by decide) _ 0 [] hs hown ad m c (ic zs) hx (by simp [ic, hr.len]) (fun j u hu => ?_) (ic_one zs) (by unfold maxLen; omega) (by omega) (by simp) ?_
    · have hj : j < m := by
        have := (List.getElem?_eq_some_iff.1 hu).1
        simp [ic, hr.len] at this
        exact this
      have hjz : j < zs.length := by rw [hr.len]; exact hj
      have := (hr.carry hbel).cells ad rfl j hj
      rw [this]
      simp only [ic, List.getElem?_map, List.getElem?_eq_getElem hjz, Option.map_some] at hu
      rw [← hu]
      simp [List.getD, hjz]
    · intro v' w' k1 k2 _
      simp only [Nat.zero_add, List.nil_append] at k1
      exact h v' w' k1 (hbel.grown k2 (by simp) (fun k hk => by cases hk; exact Nat.le_refl _))

/-- What the law copies of ints. -/
theorem ints_any (a : Option Addr) (n c : Nat) (zs : List Int) (w : World) (hR : IAr w a n c zs) :
    Calls Tryz.prog 25 #[.slice a n c] w fun e w' => ∃ v g, e = .returned v ∧ IRd w' g v (zs.take 30) ∧ w.heap.size ≤ g ∧ Below w.heap.size w w' := by
  have hcp := hR.cap
  have hmx := hR.most
  have fin : ∀ v w' k, (zs.take 30).length = k → w'.ownsRow w.heap.size 3 1 v k (ic (zs.take 30)) → ∃ g, IRd w' g v (zs.take 30) ∧ w.heap.size ≤ g := fun v w' k hl ho => by
    rcases ho.2 with ⟨rfl, h0⟩ | ⟨g, cap, cur, rfl, hg, hb, hnc, hcm, hcs, htk⟩
    · subst h0
      exact ⟨w.heap.size, ⟨none, 0, by rw [hl], by omega, by omega, fun h => absurd (List.eq_nil_of_length_eq_zero hl) h⟩, Nat.le_refl _⟩
    · refine ⟨g, ⟨_, cap, by rw [hl], by omega, by unfold maxLen at hcm; omega, fun _ => ⟨0, rfl, fun j hj => ?_⟩⟩, hg⟩
      have := ho.cells (g := g) rfl j (.int .i64 ((zs.take 30).getD j 0)) (by rw [ic, List.getElem?_map, List.getD_eq_getElem?_getD, List.getElem?_eq_getElem hj]; rfl)
      rw [add_flat] at this
      exact this
  by_cases hn : (30 : Int) < (n : Int)
  · have hl : (zs.take 30).length = 30 := by rw [List.length_take, hR.len]; omega
    have HL : Hid ((zs.take 30).length = 30) := hl
    clear hl
    go_enter Tryz.func25, Tryz.ntmps25
    go_wp2_with (at_builtin; refine wp_app0I rfl _ _ rfl rfl a 30 c (zs.take 30) rfl (hR.take (by omega)) (by omega) ?_; intro v' w1 hown1 hb1)
    go_ret
    obtain ⟨g, h1, h2⟩ := fin _ _ _ HL.out hown1
    first | exact ⟨_, g, rfl, h1, h2, hb1⟩ | exact ⟨_, rfl, g, h1, h2, hb1⟩ | exact ⟨_, rfl, ⟨g, h1, h2⟩, hb1⟩
  · have ht : zs.take 30 = zs := List.take_of_length_le (by rw [hR.len]; omega)
    have hl : (zs.take 30).length = n := by rw [ht, hR.len]
    have HT : Hid (zs.take 30 = zs) := ht
    have HL : Hid ((zs.take 30).length = n) := hl
    clear ht hl
    go_enter Tryz.func25, Tryz.ntmps25
    go_wp2_with (at_builtin; refine wp_app0I rfl _ _ rfl rfl a n c zs rfl hR (by omega) ?_; intro v' w1 hown1 hb1)
    go_ret
    obtain ⟨g, h1, h2⟩ := fin _ _ _ HL.out (by rw [HT.out]; exact hown1)
    first | exact ⟨_, g, rfl, h1, h2, hb1⟩ | exact ⟨_, rfl, g, h1, h2, hb1⟩ | exact ⟨_, rfl, ⟨g, h1, h2⟩, hb1⟩

theorem cellsBytes : Tryz.prog.cellsOf 29 = 1 := by kernel_rfl
theorem cellsInt : Tryz.prog.cellsOf 3 = 1 := by kernel_rfl
theorem cellsRows : Tryz.prog.cellsOf 30 = 1 := by kernel_rfl
theorem cellsInts : Tryz.prog.cellsOf 31 = 1 := by kernel_rfl
theorem arr4 {α : Type} {cs : Array α} (h : cs.size = 4) : ∃ c0 c1 c2 c3, cs = #[c0, c1, c2, c3] := by
  obtain ⟨l⟩ := cs
  match l, h with
  | [c0, c1, c2, c3], _ => exact ⟨c0, c1, c2, c3, rfl⟩
end Go.Proofs.YtikkieaokfailaaGreatDoor

/- LogKeeps: the law's own copies, its arguments, and what a log's block tells. -/
namespace Go.Proofs.YtikkieaokfailaaGreatDoor
open Go.ChangeShapes Go.WideShapes Go.ChangeAt Go.RowKit Go.Joins

/-- few: at most 200 bytes, in new memory of its own. -/
theorem few200O (a : Option Addr) (n c : Nat) (xs : List Int) (w : World) (hR : Rd w a n c xs) :
    Calls Tryz.prog 17 #[.slice a n c] w fun e w' => ∃ a' n' c', e = .returned (.slice a' n' c') ∧ n' ≤ 200 ∧ w'.ownsRow w.heap.size 5 1 (.slice a' n' c') n' (bc (xs.take 200)) ∧ Rd w' a' n' c' (xs.take 200) ∧ (∀ ad, a' = some ad → w.heap.size ≤ ad.block) ∧ Below w.heap.size w w' := by
  have hb := hR.bytes.take 200
  go_enter Tryz.func17, Tryz.ntmps17
  go_wp2_with (go_at_call 54; refine (twin_any a n c xs 200 _ hR (by omega)).mono ?_; rintro e w1 ⟨v1, rfl, ho1, hb1⟩)
  go_ret
  obtain ⟨a1, c1, rfl, hr1⟩ := Rd.ofOwn ho1 hb
  refine ⟨a1, _, c1, rfl, by rw [List.length_take]; omega, ho1, hr1, fun ad had => ?_, hb1⟩
  rcases ho1.2 with ⟨e, _⟩ | ⟨g, cap, cur, e, hg, _⟩
  · injection e with e1; rw [e1] at had; cases had
  · injection e with e1; rw [e1] at had; cases had; exact hg
theorem IAr.flat {W : World} {a : Option Addr} {n c : Nat} {zs : List Int} (h : IAr W a n c zs) (h0 : 0 < n) : ∃ b off, a = some ⟨b, off, none⟩ ∧ ∀ j, j < n → W.cell? ⟨b, off + j, none⟩ = some (.int .i64 (zs.getD j 0)) := by
  cases a with
  | none => have := h.nil rfl; have := h.cap; omega
  | some ad =>
    obtain ⟨b, off, spot⟩ := ad
    have e0 := h.cells _ rfl 0 h0
    have hspot : spot = none := by simpa [Addr.add] using World.cell?_spot e0
    subst hspot
    refine ⟨b, off, rfl, fun j hj => ?_⟩
    have := h.cells _ rfl j hj
    rwa [add_flat] at this
theorem tmK (q : Nat) (h0 : 0 < q) (h9 : q ≤ 1000) (z : Int) : ∃ k : Nat, (wrap64 (z.tmod (q : Int) + (q : Int))).tmod (q : Int) = (k : Int) ∧ k < q := by
  have h1 : z.tmod (q : Int) < (q : Int) := Int.tmod_lt_of_pos z (by omega)
  have h2 : -(q : Int) < z.tmod (q : Int) := by
    have : (-z).tmod (q : Int) < (q : Int) := Int.tmod_lt_of_pos (-z) (by omega)
    rw [Int.neg_tmod] at this; omega
  have h3 : wrap64 (z.tmod (q : Int) + (q : Int)) = z.tmod (q : Int) + (q : Int) := by unfold wrap64; omega
  rw [h3, Int.tmod_eq_emod_of_nonneg (by omega)]
  have h4 := Int.emod_nonneg (z.tmod (q : Int) + (q : Int)) (show (q : Int) ≠ 0 by omega)
  have h5 := Int.emod_lt_of_pos (z.tmod (q : Int) + (q : Int)) (show (0 : Int) < (q : Int) by omega)
  exact ⟨((z.tmod (q : Int) + (q : Int)) % (q : Int)).toNat, by omega, by omega⟩
/-- Len, of a log whose block stands. -/
theorem slen_blk (w : World) (lb d most : Nat) (a : Option Addr) (N c : Nat) (ch : Ch) (dn : Bool) (h : w.heap[lb]? = some (.cells (lcs d most (.slice a N c) ch dn) 119 (0, 0))) :
    Calls Tryz.prog 26 #[.pointer (some ⟨lb, 0, none⟩)] w fun e w' => e = .returned (.int .i64 (N : Int)) ∧ w' = w := by
  have q2 : w.cell? ⟨lb, 2, none⟩ = some (.slice a N c) := by rw [cell_of_block h]; rfl
  clear h
  go_enter Tryz.func26, Tryz.ntmps26
  go_wp2
  go_ret
  exact ⟨rfl, rfl⟩
/-- Whatever Open answered, the disk is what it leaves. -/
theorem Opened.dp {w w' : World} {F : Nat → Prop} {d : Nat} {r : Nat × Lg × Dk} {e : Ending} (h : Opened w w' F d r e) : (∃ v, e = .returned v) ∧ Dp w F d r.2.2 w' := by
  by_cases h0 : r.1 = 0
  · obtain ⟨lb, e1, _, F', H', hA, hk, hF, _⟩ := h.yes h0
    obtain ⟨v, hL, _⟩ := hA.ex
    exact ⟨⟨_, e1⟩, F', hL.D, hk, hF⟩
  · obtain ⟨e1, h2⟩ := h.no h0
    exact ⟨⟨_, e1⟩, h2⟩
/-- Append of one row of bytes to the law's row of rows. -/
theorem wp_app1W {w : World} {ops : Array Oper} {rest : List Oper} {o : Oper} {a : Act} {Q : Exit → Act → World → Prop} (hgd : o.guard = none) (s x : Operand)
    (ho : o.op = .call { callee := .builtin .append, args := #[s, x], argTypes := #[30, 30] })
    (base : Nat) (v : Value) (n : Nat) (xs : List Value) (hs : a.eval s = v) (hown : w.ownsRow base 29 1 v n xs) (ao : Option Addr) (m c : Nat)
    (hx : a.eval x = .slice (some ⟨w.heap.size, 0, none⟩) 1 1) (hn : n ≤ 1000000) (hbase : base ≤ w.heap.size)
    (h : ∀ v' w', w'.ownsRow base 29 1 v' (n + 1) (xs ++ [.slice ao m c]) → Keep (fun k => v.ownBlock = some k) w w' → (v'.ownBlock = v.ownBlock ∨ ∃ g, v'.ownBlock = some g ∧ w.heap.size ≤ g) → wpList Tryz.prog ops Q rest (a.put o.dst v') w') : wpList Tryz.prog ops Q (o :: rest) a (w.alloc (.cells #[.slice ao m c] 29)) := by
  refine wpList_plain hgd fun K hK => ?_
  obtain ⟨v', w', hrun, h2, h3, h4⟩ := run_appW o.type hown ao m c hn hbase
  unfold Oper.wp
  simp only [execOp, ho, resolve, invoke, builtin, Sem.run_bind, Sem.run_pure, Result.andThen_ok, List.map_toArray, List.map_cons, List.map_nil, hs, hx, hrun]
  exact hK _ _ (h v' w' h2 h3 h4)

/-- One call of the law, as it lies from cell q of block b on. -/
structure SOpAt (w : World) (b q : Nat) (Do : Int) (ar : Option Addr) (nr cr : Nat) (xs : List Int) (al : Option Addr) (nl cl : Nat) (ls : List (List Int)) (Nn : Int) (ak : Option Addr) (nk ck : Nat) (zs : List Int) : Prop where
  c0 : w.cell? ⟨b, q, none⟩ = some (.int .i64 Do)
  c1 : w.cell? ⟨b, q + 1, none⟩ = some (.slice ar nr cr)
  c2 : w.cell? ⟨b, q + 2, none⟩ = some (.slice al nl cl)
  c3 : w.cell? ⟨b, q + 3, none⟩ = some (.int .i64 Nn)
  c4 : w.cell? ⟨b, q + 4, none⟩ = some (.slice ak nk ck)
  hR : Rd w ar nr cr xs
  hL : RRd w al nl ls
  hN : -9223372036854775808 ≤ Nn ∧ Nn ≤ 9223372036854775807
  hK : IAr w ak nk ck zs
theorem SOpAt.below {w w' : World} {b q : Nat} {Do : Int} {ar : Option Addr} {nr cr : Nat} {xs : List Int} {al : Option Addr} {nl cl : Nat} {ls : List (List Int)} {Nn : Int} {ak : Option Addr} {nk ck : Nat} {zs : List Int} (h : SOpAt w b q Do ar nr cr xs al nl cl ls Nn ak nk ck zs) (hb : Below w.heap.size w w') : SOpAt w' b q Do ar nr cr xs al nl cl ls Nn ak nk ck zs := by
  have t : ∀ i u, w.cell? ⟨b, i, none⟩ = some u → w'.cell? ⟨b, i, none⟩ = some u := fun i u hc => (hb.cell (p := ⟨b, i, none⟩) (World.block_lt_of_cell? w _ hc)).trans hc
  exact ⟨t _ _ h.c0, t _ _ h.c1, t _ _ h.c2, t _ _ h.c3, t _ _ h.c4, h.hR.carry (Nat.le_refl _) hb, h.hL.below hb, h.hN, h.hK.carry hb⟩
structure SORd (w : World) (a : Option Addr) (n c : Nat) : Prop where
  cap : n ≤ c
  most : c ≤ 9223372036854775807
  flat : 0 < n → ∃ b off, a = some ⟨b, off, none⟩ ∧ ∀ j, j < n → ∃ Do ar nr cr xs al nl cl ls Nn ak nk ck zs, SOpAt w b (off + j * 5) Do ar nr cr xs al nl cl ls Nn ak nk ck zs

theorem cellsLop : Tryz.prog.cellsOf 33 = 5 := by kernel_rfl
set_option maxRecDepth 100000 in
set_option maxHeartbeats 2000000 in
theorem open_lops {H : Type} {enc : TypeId × Value → H} {W : World} {b0 : Nat} {v : Value} {d : DataW H} {p : List MemPlace}
    (hv : Value.okWide Tryz.prog W .any b0 22 v) (h : DataW.Trod enc Tryz.prog W 0 (fun _ => true) true 22 v d p) : ∃ a n c, v = .slice a n c ∧ SORd W a n c := by
  obtain ⟨a, n, c, rfl⟩ := okWide_slice Tryz.underlying22 hv
  refine ⟨a, n, c, rfl, ?_⟩
  obtain ⟨fuel, hf⟩ := h
  rcases Go.Deep.open_slice Tryz.underlying22 hf with ⟨hcs, _⟩ | ⟨x, l, cc, m, k, D, Pl, hcs, hb, hl, hm, hmm, _, hx⟩
  · simp [Value.cells] at hcs
    obtain ⟨rfl, rfl, rfl⟩ := hcs
    exact ⟨Nat.le_refl _, by omega, fun h => by omega⟩
  · simp [Value.cells] at hcs
    obtain ⟨rfl, rfl, rfl⟩ := hcs
    simp only [if_true] at hmm
    subst hmm
    have each : ∀ j, j < n → ∃ (Do : Int) (ar : Option Addr) (nr cr : Nat) (xs : List Int) (al : Option Addr) (nl cl : Nat) (ls : List (List Int)) (Nn : Int) (ak : Option Addr) (nk ck : Nat) (zs : List Int), W.cell? (x.add (j * 5)) = some (.int .i64 Do) ∧ W.cell? (x.add (j * 5 + 1)) = some (.slice ar nr cr) ∧ W.cell? (x.add (j * 5 + 2)) = some (.slice al nl cl) ∧ W.cell? (x.add (j * 5 + 3)) = some (.int .i64 Nn) ∧ W.cell? (x.add (j * 5 + 4)) = some (.slice ak nk ck) ∧ Rd W ar nr cr xs ∧ RRd W al nl ls ∧ (-9223372036854775808 ≤ Nn ∧ Nn ≤ 9223372036854775807) ∧ IAr W ak nk ck zs := by
      intro j hj
      obtain ⟨cs', h1, h2⟩ := hx j (by omega)
      rw [cellsLop] at h1
      obtain ⟨_, hlen, hcell⟩ := World.cells?_some h1
      obtain ⟨ws, q, hq, hxy, _, hxl, hfs⟩ := DataW.trod_struct Tryz.underlying33 h2
      match ws, hxl, cs', hlen with
      | [y0, y1, y2, y3, y4], _, [v0, v1, v2, v3, v4], _ =>
        have f0 : DataW.trod enc Tryz.prog W 0 (fun _ => true) true q 3 [v0] = some y0 := by simpa [Value.cells, cellsInt] using hfs 0 _ rfl
        have f1 : DataW.trod enc Tryz.prog W 0 (fun _ => true) true q 29 [v1] = some y1 := by simpa [Value.cells, cellsBytes] using hfs 1 _ rfl
        have f2 : DataW.trod enc Tryz.prog W 0 (fun _ => true) true q 30 [v2] = some y2 := by simpa [Value.cells, cellsRows] using hfs 2 _ rfl
        have f3 : DataW.trod enc Tryz.prog W 0 (fun _ => true) true q 3 [v3] = some y3 := by simpa [Value.cells, cellsInt] using hfs 3 _ rfl
        have f4 : DataW.trod enc Tryz.prog W 0 (fun _ => true) true q 31 [v4] = some y4 := by simpa [Value.cells, cellsInts] using hfs 4 _ rfl
        obtain ⟨K0, e0, _, w0⟩ := DataW.trod_int Tryz.underlying3 f0
        obtain ⟨K3, e3, _, w3⟩ := DataW.trod_int Tryz.underlying3 f3
        obtain ⟨ar, nr, cr, xs, e1, hR⟩ := rd_of_cells f1
        obtain ⟨al, nl, cl, ls, e2, hL⟩ := rrd_of_cells f2
        obtain ⟨ak, nk, ck, zs, e4, hK⟩ := iar_of_cells f4
        simp only [List.cons.injEq, and_true] at e0 e3
        subst e0 e1 e2 e3 e4
        have b3 := bounds_i64 w3
        have c0 := hcell 0 (by omega)
        have c1 := hcell 1 (by omega)
        have c2 := hcell 2 (by omega)
        have c3 := hcell 3 (by omega)
        have c4 := hcell 4 (by omega)
        rw [Go.Deep.add_add] at c0 c1 c2 c3 c4
        exact ⟨K0, ar, nr, cr, xs, al, nl, cl, ls, K3, ak, nk, ck, zs, by simpa using c0, by simpa using c1, by simpa using c2, by simpa using c3, by simpa using c4, hR, hL, b3, hK⟩
    refine ⟨hl, hm, fun h0 => ?_⟩
    obtain ⟨b, off, spot⟩ := x
    obtain ⟨_, _, _, _, _, _, _, _, _, _, _, _, _, _, e0, _⟩ := each 0 h0
    have hspot : spot = none := by simpa [Addr.add] using World.cell?_spot e0
    subst hspot
    refine ⟨b, off, rfl, fun j hj => ?_⟩
    obtain ⟨Do, ar, nr, cr, xs, al, nl, cl, ls, Nn, ak, nk, ck, zs, e0, e1, e2, e3, e4, e7, e8, e9, e10⟩ := each j hj
    rw [add_flat] at e0 e1 e2 e3 e4
    simp only [← Nat.add_assoc] at e0 e1 e2 e3 e4
    exact ⟨Do, ar, nr, cr, xs, al, nl, cl, ls, Nn, ak, nk, ck, zs, ⟨e0, e1, e2, e3, e4, e7, e8, e9, e10⟩⟩

/-- The disk alone is turned. -/
theorem LogAt.dp {w w' : World} {F H : Nat → Prop} {lb d : Nat} {l : Lg} {k k' : Dk} (h : LogAt w F H lb d l k) (hp : Dp w F d k' w') : Lgp w F H lb d l k' w' := by
  obtain ⟨F', hD, hk, hF⟩ := hp
  obtain ⟨v, hL, hR⟩ := h.ex
  have hl := hL.lt
  have hHl := h.lt
  have hnf : ∀ i, i < w.heap.size → ¬ F i → ¬ F' i := fun i h1 h2 h3 => (hF i h3).elim h2 (fun h4 => by omega)
  exact ⟨F', H, ⟨⟨v, ⟨(hk.block lb hl hL.nf).trans hL.blk, hD, hnf lb hl hL.nf⟩, hR.keep hk h.hf (fun _ h => h)⟩, fun i hi => hnf i (hHl i hi) (h.hf i hi), h.hl, fun i hi => Nat.lt_of_lt_of_le (hHl i hi) hk.size, h.pf.next (hk.mono (fun i hi => Or.inl hi)) hF, h.ph⟩, hk.mono (fun i hi => Or.inl hi), hF, fun i hi => Or.inl hi⟩
theorem Rd.strN {w : World} {a : Option Addr} {n c : Nat} {xs : List Int} (h : Rd w a n c xs) : ∀ k, (convert 29 9 (.slice a n c)).run Tryz.prog (w.drewN k) = .ok (.string (strOfNums xs)) (w.drewN k) := fun k => (rd_drewN h k).string
/-- A row of records, its blocks kept apart. -/
theorem RcA.cell {w : World} {A : Nat → Prop} {al : Option Addr} {N cl : Nat} {rs : List (List Int)} (h : RcA w A (.slice al N cl) rs) (hN : rs.length = N) (j : Nat) (hj : j < N) : ∃ g a n c, al = some ⟨g, 0, none⟩ ∧ w.cell? ⟨g, j, none⟩ = some (.slice a n c) ∧ Rd w a n c (rs.getD j []) := by
  obtain ⟨⟨vs, ov, hvs⟩, _⟩ := h
  obtain ⟨r, hr⟩ : ∃ r, rs[j]? = some r := ⟨_, List.getElem?_eq_getElem (by omega)⟩
  obtain ⟨u, h1, h2, _, h4⟩ := hvs j r hr
  obtain ⟨a, c, rfl, h5⟩ := Rd.ofOwn h2 h4
  rcases ov.2 with ⟨e, h0⟩ | ⟨g, cap, cur, e, _⟩
  · rw [hN] at h0; omega
  · injection e with e1
    subst e1
    have hc := ov.cells (g := g) rfl j _ h1
    rw [add_flat, Nat.zero_add] at hc
    refine ⟨g, a, _, c, rfl, hc, ?_⟩
    rw [List.getD_eq_getElem?_getD, hr]
    exact h5

theorem iar_of_trod {H : Type} {enc : TypeId × Value → H} {W : World} {a : Option Addr} {n c : Nat} {d : DataW H} {ps : List MemPlace}
    (h : DataW.Trod enc Tryz.prog W 0 (fun _ => true) true 31 (.slice a n c) d ps) : ∃ zs, IAr W a n c zs := by
  obtain ⟨fuel, hf⟩ := h
  obtain ⟨_, _, _, zs, hv, hr⟩ := iar_of_cells (v := .slice a n c) (by simpa [Value.cells] using hf)
  cases hv
  exact ⟨zs, hr⟩

end Go.Proofs.YtikkieaokfailaaGreatDoor
