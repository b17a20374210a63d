/- Base64Own's walk. -/
import Derived.Test.YtmmjeikmifhekaaB6W
import Derived.Test.YtmmjeikmifhekaaOwnLB
namespace Go.Proofs.Ytmmjeikmifhekaa.base64Own
open Go.RowKit
open Go.Proofs.Ytmmjeikmifhekaa

structure Sta (w : World) (m : Nat) (W : World) : Prop where
  lb : LB w.heap.size w.heap.size (w.heap.size + 1) m W
  bel : Below w.heap.size w W
theorem Sta.ext {w W W' : World} {m : Nat} (h : Sta w m W) (hx : Below W.heap.size W W') : Sta w m W' := ⟨h.lb.ext hx, h.bel.trans (hx.mono h.bel.size)⟩
theorem fewS {w W : World} {m : Nat} (h : Sta w m W) (a : Option Addr) (l k : Nat) (xs : List Int) (hR : Rd w a l k xs) :
    Calls Try.prog 11 #[.slice a l k] W fun e W' => ∃ a' l' k', e = .returned (.slice a' l' k') ∧ l' ≤ 1000 ∧ Rd W' a' l' k' (xs.take 1000) ∧ Sta w m W' := by
  refine (fewR a l k xs W (hR.carry (Nat.le_refl _) h.bel)).mono ?_
  rintro e W' ⟨a', l', k', rfl, hl, hr, hx⟩
  exact ⟨a', l', k', rfl, hl, hr, h.ext hx⟩
theorem lendS {w W : World} {m : Nat} (h : Sta w m W) (hm : m ≤ 1000) (a : Option Addr) (l k : Nat) (X : List Int) (hR : Rd W a l k X) (hl : l ≤ 2000) :
    Calls Try.prog 14 #[.pointer (some ⟨w.heap.size, 0, none⟩), .slice a l k] W fun e W' => ∃ g cap, e = .returned (.slice (some ⟨g, 0, none⟩) l cap) ∧ Rd W' (some ⟨g, 0, none⟩) l cap X ∧ Sta w (m + 1) W' := by
  refine (lendR h.lb h.bel.size hm a l k X hR hl).mono ?_
  rintro e W' ⟨g, cap, rfl, hr, hl', hb⟩
  exact ⟨g, cap, rfl, hr, hl', h.bel.trans hb⟩
theorem decodeS {w W : World} {m : Nat} (h : Sta w m W) (S : List Int) (hb : Bd S) (hn : S.length ≤ 2000) :
    Calls Try.prog 8 #[.string (strOfNums S)] W fun e W' => ∃ v x E, e = .returned (.tuple #[v, .int .i64 E]) ∧ Sta w m W' ∧ Below W.heap.size W W' ∧ Ow W' v x ∧ (∀ k, v.ownBlock = some k → W.heap.size ≤ k) ∧ x.length ≤ 2000 := by
  refine (decode_any S W hb (by omega)).mono ?_
  rintro e W' ⟨v, rfl, hN, hx⟩
  refine ⟨v, _, _, rfl, h.ext hx, hx, Ow.ofFrom hN.1 hN.2, fun j e => (hN.1.lt j e).1, ?_⟩
  rcases hd : dec S with _ | d
  · show ([] : List Int).length ≤ 2000; simp
  · have := (dec_some hd).1
    have h2 := enc_len d
    rw [this] at h2
    show d.length ≤ 2000
    omega
theorem takeS {w W W' : World} {m : Nat} (h : Sta w m W) (hx : Below W.heap.size W W') (u : Value) (x : List Int) (hu : Ow W' u x) (hn : ∀ k, u.ownBlock = some k → W.heap.size ≤ k) (hl : x.length ≤ 2000) :
    Calls Try.prog 15 #[.pointer (some ⟨w.heap.size + 1, 0, none⟩), u] W' fun e W2 => ∃ r, e = .returned r ∧ Sta w m W2 := by
  refine (takeR h.lb h.bel.size hx u x hu hn (by omega)).mono ?_
  rintro e W2 ⟨r, rfl, hl, hb⟩
  exact ⟨r, rfl, hl, (h.ext hx).bel.trans hb⟩

set_option maxRecDepth 100000 in
set_option maxHeartbeats 4000000 in
theorem walk (a : Option Addr) (n c : Nat) (xs : List Int) (S : ByteArray) (w : World) (hR : Rd w a n c xs) (hS : S.size ≤ 9223372036854775807) :
    Calls Try.prog 5 #[.slice a n c, .string S] w fun e w' => e = .returned (.bool true) ∧ Below w.heap.size w w' := by
  have s0 : Sta w 0 ((w.alloc (.cells #[.slice none 0 0, .slice none 0 0] 39)).alloc (.cells #[.slice none 0 0, .slice none 0 0, .slice none 0 0, .slice none 0 0, .int .i64 0] 42)) := ⟨LB.start w, ((Below.refl _ _).alloc (Nat.le_refl _) _).alloc (by simp) _⟩
  obtain ⟨X, HX⟩ : ∃ X, Hid ((nums S).take 1000 = X) := ⟨_, rfl⟩
  have bX : Hid (Bd X) := by show Bd X; rw [← HX.out]; exact (nums_bd S).take _
  have lX : Hid (X.length ≤ 2000) := by show _ ≤ _; rw [← HX.out, List.length_take]; omega
  obtain ⟨P, HP⟩ : ∃ P, Hid (xs.take 1000 = P) := ⟨_, rfl⟩
  have bE : Hid (Bd (enc P)) := by show Bd _; rw [← HP.out]; exact enc_bd (hR.bytes.take _)
  have lE : Hid ((enc P).length ≤ 2000) := by show _ ≤ _; rw [enc_len, ← HP.out, List.length_take]; omega
  go_enter Try.func5, Try.ntmps5
  go_wp2
  go_loopw [7, 8, 9] (fun i _ _ wr => ∃ k : Nat, i = .int .i64 k ∧ k ≤ 3 ∧ Sta w k wr) (fun i _ _ _ => 3 - natV i)
  case atStart => exact ⟨0, rfl, by omega, s0⟩
  case round =>
    clear s0
    obtain ⟨k, rfl, hk, s0⟩ := hrel
    by_cases hgo : k < 3
    · have hgz : (k : Int) < 3 := by omega
      have t1 : True := trivial
      have t2 : True := trivial
      go_wp2_with (first
        | (go_at_call 11; refine (fewS s0 a n c xs hR).mono ?_; rw [HP.out]; rintro e wa ⟨a1, n1, c1, rfl, hn1, hr1, s1⟩; clear s0)
        | (go_at_call 14; refine (lendS s1 (by omega) a1 n1 c1 P hr1 (by omega)).mono ?_; rintro e wb ⟨g2, cap2, rfl, hr2, s2⟩; clear s1 hr1)
        | (go_at_call 10; refine (encode_any _ _ _ P _ hr2 (by omega)).mono ?_; rintro e wc ⟨rfl, hb3⟩; have s3 := s2.ext hb3; clear s2 hr2 hb3)
        | (go_at_call 8; clear t1; refine (decodeS s3 (enc P) bE.out lE.out).mono ?_; rintro e wd ⟨v4, x4, E4, rfl, _, hx4, ho4, hn4, hl4⟩)
        | (go_at_call 15; clear t2; refine (takeS s3 hx4 v4 x4 ho4 hn4 hl4).mono ?_; rintro e we ⟨r5, rfl, s5⟩; clear s3 hx4 ho4 hn4 hl4)
        | (go_at_call 7; refine (text_any S 1000 _ hS (by omega)).mono ?_; rw [HX.out]; rintro e wf ⟨rfl, rfl⟩)
        | (go_at_call 8; refine (decodeS s5 X bX.out lX.out).mono ?_; rintro e wg ⟨v6, x6, E6, rfl, _, hx6, ho6, hn6, hl6⟩)
        | (go_at_call 15; refine (takeS s5 hx6 v6 x6 ho6 hn6 hl6).mono ?_; rintro e wh ⟨r7, rfl, s7⟩; clear s5 hx6 ho6 hn6 hl6))
      exact ⟨⟨k + 1, rfl, by omega, s7⟩, by simp only [natV]; omega⟩
    · have hgz : ¬ (k : Int) < 3 := by omega
      go_wp2_with (first
        | (go_at_call 16; refine (backR s0.lb s0.bel.size (by omega)).mono ?_; rintro e wa ⟨rfl, hb1, fv, wv, fs, ws, ys, M, hbk, hbf⟩)
        | (go_at_call 17; refine (bookClose_any (w.heap.size + 1) M fv wv fs ws ys _ hbk).mono ?_; rintro e wb ⟨rfl, hk2⟩)
        | (go_at_call 13; refine (wakes_any _).mono ?_; rintro e wc ⟨rfl, hb3⟩))
      go_ret
      have h1 := s0.bel.size
      have h2 := hb1.size
      have h3 := hk2.size
      exact ⟨rfl, ((s0.bel.trans hb1).trans (hk2.below (by omega) hbf)).trans (hb3.mono (by omega))⟩
end Go.Proofs.Ytmmjeikmifhekaa.base64Own
