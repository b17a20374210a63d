/- same: the same payloads? -/
import Derived.Test.YtmpoddgmkneffaaFrRef
namespace Go.Proofs.Ytmpoddgmkneffaa
open Go.RowKit Go.Shelf

/-- What a slice of slices of bytes reads as. -/
structure RRd (W : World) (a : Option Addr) (n : Nat) (xs : List (List Int)) : Prop where
  len : xs.length = n
  most : n ≤ 9223372036854775807
  flat : 0 < n → ∃ b off, a = some ⟨b, off, none⟩ ∧ ∀ j, j < n → ∃ aj nj cj, W.cell? ⟨b, off + j, none⟩ = some (.slice aj nj cj) ∧ Rd W aj nj cj (xs.getD j [])

theorem RRd.below {W W' : World} {a : Option Addr} {n : Nat} {xs : List (List Int)} (h : RRd W a n xs) (hb : Below W.heap.size W W') : RRd W' a n xs := by
  refine ⟨h.len, h.most, fun h0 => ?_⟩
  obtain ⟨b, off, rfl, hc⟩ := h.flat h0
  refine ⟨b, off, rfl, fun j hj => ?_⟩
  obtain ⟨aj, nj, cj, h1, h2⟩ := hc j hj
  exact ⟨aj, nj, cj, (hb.cell (p := ⟨b, off + j, none⟩) (World.block_lt_of_cell? W _ h1)).trans h1, h2.carry (Nat.le_refl _) hb⟩

theorem rrd_drewN {W : World} {a : Option Addr} {n : Nat} {xs : List (List Int)} (h : RRd W a n xs) (k : Nat) : RRd (W.drewN k) a n xs := h.below ⟨rfl, rfl, rfl, Nat.le_refl _, fun _ _ => rfl⟩

theorem Pays.get {W : World} : ∀ {vs : List Value} {xs : List (List Int)} {lo : Nat}, Pays W lo vs xs → ∀ j, j < xs.length → ∃ aj nj cj, vs[j]? = some (.slice aj nj cj) ∧ Rd W aj nj cj (xs.getD j []) ∧ ∃ k, (Value.slice aj nj cj).ownBlock = some k ∧ lo ≤ k
  | [], [], _, _, j, hj => by simp at hj
  | [], _ :: _, _, h, _, _ => h.elim
  | _ :: _, [], _, h, _, _ => h.elim
  | _ :: vs, x :: xs, lo, ⟨g, cap, rfl, ho, hb, hr⟩, j, hj => by
    cases j with
    | zero =>
      obtain ⟨a, c, hv, hR⟩ := Rd.ofOwn ho hb
      exact ⟨_, _, _, rfl, by cases hv; exact hR, g, rfl, (row_block ho).1⟩
    | succ j =>
      obtain ⟨aj, nj, cj, h1, h2, k, h3, h4⟩ := hr.get j (by simpa using hj)
      have := (row_block ho).1
      exact ⟨aj, nj, cj, by simpa using h1, by simpa using h2, k, h3, by omega⟩

theorem rrd_of {W : World} {lo lo' n c : Nat} {a : Option Addr} {vs : List Value} {xs : List (List Int)} (hrow : W.ownsRow lo 31 1 (.slice a n c) n vs) (hP : Pays W lo' vs xs) (hn : xs.length = n) (hm : n ≤ 9223372036854775807) : RRd W a n xs := by
  refine ⟨hn, hm, fun h0 => ?_⟩
  rcases hrow.2 with ⟨hv, h00⟩ | ⟨g, cap, cur, hv, _⟩
  · omega
  · cases hv
    refine ⟨g, 0, rfl, fun j hj => ?_⟩
    obtain ⟨aj, nj, cj, h1, h2, _⟩ := hP.get j (by omega)
    refine ⟨aj, nj, cj, ?_, h2⟩
    have := hrow.cells (g := g) rfl j _ h1
    rwa [add_flat] at this

theorem Rd.stringN {w : World} {a : Option Addr} {n c : Nat} {xs : List Int} (h : Rd w a n c xs) : ∀ k, (convert 31 9 (.slice a n c)).run Try.prog (w.drewN k) = .ok (.string (strOfNums xs)) (w.drewN k) := fun k => (rd_drewN h k).string

set_option maxHeartbeats 1600000 in
theorem same_true (a a' : Option Addr) (n c c' : Nat) (xs : List (List Int)) (w : World) (h : RRd w a n xs) (h' : RRd w a' n xs) :
    Calls Try.prog 14 #[.slice a n c, .slice a' n c'] w fun e w' => e = .returned (.bool true) ∧ ∃ k, w' = w.drewN k := by
  have hmx := h.most
  go_enter Try.func14, Try.ntmps14
  go_wp2
  go_loopw [5] (fun i wr => ∃ k d : Nat, k ≤ n ∧ i = .int .i64 k ∧ wr = w.drewN d) (fun i _ => n - (intOf i).toNat)
  case atStart => exact ⟨0, 0, Nat.zero_le _, rfl, rfl⟩
  case round =>
    obtain ⟨k, d, hk, rfl, rfl⟩ := hrel
    by_cases hlt : k < n
    · have hlz : (k : Int) < (n : Int) := by omega
      obtain ⟨b, off, rfl, hc⟩ := h.flat (by omega)
      obtain ⟨b', off', rfl, hc'⟩ := h'.flat (by omega)
      obtain ⟨aj, nj, cj, h1, h2⟩ := hc k hlt
      obtain ⟨aj', nj', cj', h1', h2'⟩ := hc' k hlt
      have hs := h2.stringN
      have hs' := h2'.stringN
      generalize strOfNums (xs.getD k []) = str at hs hs'
      clear hc hc' h h' h2 h2'
      go_wp2
      go_quiet (fail)
      go_wp2
      go_roundw
      case rel => exact ⟨k + 1, _, by omega, by go_num, rfl⟩
      case measure => simp [intOf]; omega
    · go_wp2
      go_ret
      exact ⟨rfl, _, rfl⟩

end Go.Proofs.Ytmpoddgmkneffaa
