/- A reader's list of texts. -/
import Derived.Test.YtomkcmkbehcjnaaDoorStzG
namespace Go.Proofs.YtomkcmkbehcjnaaDoor
open Go.RowKit

/-- So many texts, what is behind them, the error. -/
def rdTexts : Nat → List Int → List ByteArray × List Int × Nat
  | 0, X => ([], X, 0)
  | m + 1, X => if terr X 1024 ≠ 0 then ([], [], terr X 1024) else (tN X 1024 :: (rdTexts m (X.drop (tlen X))).1, (rdTexts m (X.drop (tlen X))).2)
/-- A list. -/
def rdList (X : List Int) : List ByteArray × List Int × Nat :=
  if (scan X 0 0).2.2 ≠ 0 then ([], [], (scan X 0 0).2.2) else if 64 < (scan X 0 0).1 then ([], [], 5) else rdTexts (scan X 0 0).1 (X.drop (scan X 0 0).2.1)

/-- A row of strings of its own. -/
structure Ls (w : World) (g n : Nat) (l : List ByteArray) : Prop where
  len : l.length = n
  cell : ∀ j, j < n → w.cell? ⟨g, j, none⟩ = some (.string (l.getD j ⟨#[]⟩))
  thaw : ∀ j, w.frozen? ⟨g, j, none⟩ = false

theorem keep_thaw {S : Nat → Prop} {w w' : World} (k : Keep S w w') {g j : Nat} (hg : g < w.heap.size) (hs : ¬ S g) (h : w.frozen? ⟨g, j, none⟩ = false) : w'.frozen? ⟨g, j, none⟩ = false := by
  have hb := k.block g hg hs
  simpa [World.frozen?, hb] using h

theorem Ls.keep {S : Nat → Prop} {w w' : World} {g n : Nat} {l : List ByteArray} (h : Ls w g n l) (k : Keep S w w') (hg : g < w.heap.size) (hs : ¬ S g) : Ls w' g n l :=
  ⟨h.len, fun j hj => k.cell (h.cell j hj) hs, fun j => keep_thaw k hg hs (h.thaw j)⟩

theorem Ls.set {w : World} {g n : Nat} {l : List ByteArray} (h : Ls w g n l) {i : Nat} (hi : i < n) (s : ByteArray) : Ls (w.setCell ⟨g, i, none⟩ (.string s)) g n (l.set i s) := by
  refine ⟨by rw [List.length_set]; exact h.len, fun j hj => ?_, fun j => by rw [World.frozen?_setCell]; exact h.thaw j⟩
  by_cases hij : i = j
  · subst hij
    rw [World.cell?_setCell_same _ _ _ (h.cell i hi)]
    simp [List.getD, h.len, hi]
  · rw [World.cell?_setCell_other _ _ _ _ (by intro e; injection e with _ e2; exact hij e2), h.cell j hj]
    simp [List.getD, List.getElem?_set_ne hij]

theorem made_get (n j : Nat) (h : j < n) : (madeCells #[Value.string ⟨#[]⟩] n)[j]? = some (.string ⟨#[]⟩) := by
  unfold madeCells
  simp [h, Nat.mod_one]

theorem thaw_at {w : World} {g : Nat} {cs : Array Value} {t : TypeId} (h : w.heap[g]? = some (.cells cs t (0, 0))) (j : Nat) : w.frozen? ⟨g, j, none⟩ = false := by simp [World.frozen?, h]

theorem Ls.made (w : World) (n : Nat) : Ls (w.alloc (.cells (madeCells #[.string ⟨#[]⟩] n) 9)) w.heap.size n (List.replicate n ⟨#[]⟩) := by
  refine ⟨by simp, fun j hj => ?_, fun j => ?_⟩
  · have : (w.alloc (.cells (madeCells #[.string ⟨#[]⟩] n) 9)).heap[w.heap.size]? = some (.cells (madeCells #[.string ⟨#[]⟩] n) 9 (0, 0)) := by
      show (w.heap.push _)[w.heap.size]? = _
      simp
    simp only [World.cell?, this, made_get n j hj]
    simp [List.getD, hj]
  · have : (w.alloc (.cells (madeCells #[.string ⟨#[]⟩] n) 9)).heap[w.heap.size]? = some (.cells (madeCells #[.string ⟨#[]⟩] n) 9 (0, 0)) := by
      show (w.heap.push _)[w.heap.size]? = _
      simp
    exact thaw_at this j

theorem Ls.srd {w : World} {g n : Nat} {l : List ByteArray} (h : Ls w g n l) (hn : n ≤ 1000000) (hs : ∀ s ∈ l, s.size ≤ 9223372036854775807) : SRd w (some ⟨g, 0, none⟩) n n l := by
  refine ⟨h.len, Nat.le_refl _, by unfold maxLen; omega, (fun h => by cases h), hs, fun ad had j hj => ?_⟩
  cases had
  rw [add_flat, Nat.zero_add]
  exact h.cell j hj

theorem RdAt.ext {w w' : World} {r : Nat} {X : List Int} (h : RdAt w r X) (k : Below w.heap.size w w') : RdAt w' r X := by
  obtain ⟨a, n, c, h⟩ := h
  exact ⟨a, n, c, h.keep (Keep.ofBelow (S := fun _ => False) k) (fun h => h) (fun _ _ h => h)⟩

theorem rdTexts_step {m : Nat} {X : List Int} (h : terr X 1024 = 0) : rdTexts (m + 1) X = (tN X 1024 :: (rdTexts m (X.drop (tlen X))).1, (rdTexts m (X.drop (tlen X))).2) := by rw [rdTexts, if_neg (by omega)]
theorem rdTexts_stop {m : Nat} {X : List Int} (h : terr X 1024 ≠ 0) : rdTexts (m + 1) X = ([], [], terr X 1024) := by rw [rdTexts, if_pos h]

theorem set_front (pre : List ByteArray) (m : Nat) (s : ByteArray) : (pre ++ List.replicate (m + 1) (⟨#[]⟩ : ByteArray)).set pre.length s = (pre ++ [s]) ++ List.replicate m (⟨#[]⟩ : ByteArray) := by
  rw [List.set_append_right _ _ (Nat.le_refl _), Nat.sub_self, List.replicate_succ, List.set_cons_zero, List.append_assoc]
  rfl

theorem run_mkStrs (n : Nat) (hn : n ≤ 64) (w : World) : (Instr.makeSlice 23 (.int .u64 (n : Int)) (.int .u64 (n : Int))).run Tryd.prog w = .ok (.slice (some ⟨w.heap.size, 0, none⟩) n n) (w.alloc (.cells (madeCells #[.string ⟨#[]⟩] n) 9)) :=
  run_make_row' 23 9 (.string ⟨#[]⟩) 16 Tryd.underlying23 (by kernel_rfl) rfl .u64 .u64 n (by omega) (by omega) w

/-- What the list's answer is. -/
abbrev LGood (l : List ByteArray) (X' : List Int) (r : Nat) (w : World) (e : Ending) (w' : World) : Prop :=
  ∃ g n, e = .returned (.slice (some ⟨g, 0, none⟩) n n) ∧ w.heap.size ≤ g ∧ g < w'.heap.size ∧ n ≤ 64 ∧ Ls w' g n l ∧ RdAt w' r X' ∧ Keep (fun k => k = r) w w'

theorem Lays.keepR {w w' : World} (h : Lays w) {r : Nat} (hr : 5 ≤ r) {S : Nat → Prop} (hS : ∀ k, S k → r ≤ k) (k : Keep S w w') : Lays w' := by
  have go : ∀ {p : Addr} {v : Value}, p.block < 5 → w.cell? p = some v → w'.cell? p = some v := fun hp hc => k.cell hc (fun hs => by have := hS _ hs; omega)
  exact ⟨⟨fun c hc => go (by show 3 < 5; omega) (h.tabs.first c hc), fun i hi => go (by show 4 < 5; omega) (h.tabs.lo i hi), fun i hi => go (by show 4 < 5; omega) (h.tabs.hi i hi)⟩, fun i hi => go (by show 0 < 5; omega) (h.ord i hi), fun i hi => go (by show 1 < 5; omega) (h.kinds i hi)⟩

set_option maxHeartbeats 1600000 in
theorem list_good (r : Nat) (a : Option Addr) (n c : Nat) (X : List Int) (w : World) (h : RdA w r a n c X) (hL : Lays w) (hr5 : 5 ≤ r) {N k : Nat} (hs : scan X 0 0 = (N, k, 0)) (hN : N ≤ 64) :
    Calls Tryd.prog 72 #[.pointer (some ⟨r, 0, none⟩)] w fun e w' =>
      ((rdTexts N (X.drop k)).2.2 ≠ 0 ∧ Bad (rdTexts N (X.drop k)).2.2 r w e w') ∨ ((rdTexts N (X.drop k)).2.2 = 0 ∧ LGood (rdTexts N (X.drop k)).1 (rdTexts N (X.drop k)).2.1 r w e w') := by
  have cT := stp_good (takeU_any r a n c X w h hs)
  clear hs
  have hrlt : r < w.heap.size := World.block_lt_of_cell? w _ h.cell
  generalize X.drop k = Y at cT ⊢
  have mk := fun w => run_mkStrs N hN w
  go_enter Tryd.func72, Tryd.ntmps72
  go_wp2_with (go_at_call 60; refine cT.mono ?_; rintro e w1 ⟨rfl, hat, hk⟩)
  have hg1 := hk.size
  have hls := Ls.made w1 N
  have hb1 : Below w1.heap.size w1 (w1.alloc (.cells (madeCells #[.string ⟨#[]⟩] N) 9)) := (Below.refl _ _).alloc (Nat.le_refl _) _
  have hat1 := RdAt.ext hat hb1
  have hk1 : Keep (fun k => k = r) w (w1.alloc (.cells (madeCells #[.string ⟨#[]⟩] N) 9)) := hk.alloc _
  have hz1 : w1.heap.size < (w1.alloc (.cells (madeCells #[.string ⟨#[]⟩] N) 9)).heap.size := by simp
  generalize w1.alloc (.cells (madeCells #[.string ⟨#[]⟩] N) 9) = W1 at hls hat1 hk1 hz1 ⊢
  generalize hg : w1.heap.size = g at hls hg1 hz1 ⊢
  clear hb1 hat hk cT mk h hg
  go_loopw [15] (fun i wr => ∃ (j m : Nat) (pre : List ByteArray) (Z : List Int), j + m = N ∧ i = .int .i64 j ∧ Hid (pre.length = j) ∧ Ls wr g N (pre ++ List.replicate m ⟨#[]⟩) ∧ RdAt wr r Z ∧ Hid (rdTexts N Y = (pre ++ (rdTexts m Z).1, (rdTexts m Z).2)) ∧ Keep (fun k => k = r) w wr ∧ g < wr.heap.size) (fun i _ => N - (intOf i).toNat)
  case atStart => exact ⟨0, N, [], Y, by omega, rfl, rfl, hls, hat1, rfl, hk1, hz1⟩
  case round =>
    obtain ⟨j, m, pre, Z, hjm, rfl, HP, hlr, ⟨a2, n2, c2, hz⟩, HY, hkr, hgr⟩ := hrel
    clear hls hat1 hk1 hz1
    cases m with
    | zero =>
      have hjN : j = N := by omega
      subst hjN
      have HE : Hid (rdTexts j Y = (pre, Z, 0)) := by
        have := HY.out
        simp only [rdTexts, List.append_nil] at this
        exact this
      have hlr' : Ls wr g j pre := by simpa using hlr
      go_wp2
      go_ret
      rw [HE.out]
      exact .inr ⟨rfl, g, j, rfl, hg1, hgr, hN, hlr', ⟨a2, n2, c2, hz⟩, hkr⟩
    | succ m =>
      have hjN : (j : Int) < (N : Int) := by omega
      have hLr := hL.keepR hr5 (r := r) (fun k e => by omega) hkr
      have cX := text1_any r a2 n2 c2 Z wr hz hLr.tabs (E := terr Z 1024) rfl (S := tN Z 1024) rfl (k := tlen Z) rfl
      by_cases hE : terr Z 1024 = 0
      · have HS : Hid (rdTexts N Y = ((pre ++ [tN Z 1024]) ++ (rdTexts m (Z.drop (tlen Z))).1, (rdTexts m (Z.drop (tlen Z))).2)) := by
          have := HY.out
          rw [rdTexts_step hE] at this
          rw [this]
          show _ = _
          simp
        rw [hE] at cX
        have cX' := stp_good cX
        generalize tN Z 1024 = s at cX' HS
        generalize Z.drop (tlen Z) = Z' at cX' HS
        clear cX hE HY
        have hne : g ≠ r := by omega
        have hjl : j < N := by omega
        go_wp2_with (go_at_call 71; refine cX'.mono ?_; rintro e w2 ⟨rfl, hat2, hk2⟩; have hl2 := hlr.keep hk2 hgr (fun e => hne e); have z0 := hl2.cell j hjl; have z1 := hl2.thaw j)
        have hset := hl2.set hjl s
        rw [← HP.out, set_front] at hset
        rw [HP.out] at hset
        have hkS : Keep (fun k => k = g) w2 (w2.setCell ⟨g, j, none⟩ (.string s)) := (Keep.refl (fun k => k = g) w2).setCell (p := ⟨g, j, none⟩) (show (fun k => k = g) g from rfl) _
        obtain ⟨a3, n3, c3, hz3⟩ := hat2
        have hz4 := hz3.keep hkS (fun e => hne e.symm) (fun i hi e => by omega)
        have hk4 : Keep (fun k => k = r) w (w2.setCell ⟨g, j, none⟩ (.string s)) := (hkr.trans hk2).andThen hkS (fun i hi e => by omega)
        have hsz4 : g < (w2.setCell ⟨g, j, none⟩ (.string s)).heap.size := Nat.lt_of_lt_of_le hgr (Nat.le_trans hk2.size hkS.size)
        generalize w2.setCell ⟨g, j, none⟩ (.string s) = w4 at hset hz4 hk4 hsz4 ⊢
        clear hl2 z0 z1 hkS hz3 hk2 hkr hlr hz
        go_roundw
        case rel => exact ⟨j + 1, m, pre ++ [s], Z', by omega, by go_num, (by rw [List.length_append, HP.out]; rfl : (pre ++ [s]).length = j + 1), hset, ⟨a3, n3, c3, hz4⟩, HS, hk4, hsz4⟩
        case measure => simp [intOf]; omega
      · have HS : Hid ((rdTexts N Y).2.2 = terr Z 1024) := by
          rw [HY.out, rdTexts_stop hE]; rfl
        have cX' := stp_bad hE cX
        clear cX
        go_wp2_with (go_at_call 71; refine cX'.mono ?_; rintro e w2 ⟨rfl, hk2⟩)
        refine ⟨rfl, .inl ?_⟩
        rw [HS.out]
        exact ⟨hE, rfl, hkr.trans hk2⟩

end Go.Proofs.YtomkcmkbehcjnaaDoor
