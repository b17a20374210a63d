/- base64.Encode: the loop. -/
import Derived.Test.YtmilcknboaefkaaGreatDoorB6E
import Derived.Laws.MakeOwn
namespace Go.Proofs.YtmilcknboaefkaaGreatDoor
open Go.RowKit

def natV : Value → Nat
  | .int _ n => n.toNat
  | _ => 0
def lenB : Value → Nat
  | .slice _ n _ => n
  | _ => 0
theorem rd_zero {w : World} (ad : Addr) : Rd w (some ad) 0 0 [] := ⟨rfl, Nat.le_refl _, by unfold maxLen; omega, (fun h => by cases h), Bd.nil, fun _ _ j hj => by omega⟩
theorem mk0 (w : World) (M : Nat) (hM : M ≤ 100000000) : ∃ w', (Instr.makeSlice 22 (.int .i64 0) (.int .i64 M)).run Tryz.prog w = .ok (.slice (some ⟨w.heap.size, 0, none⟩) 0 M) w' ∧ w'.ownsRow w.heap.size 5 1 (.slice (some ⟨w.heap.size, 0, none⟩) 0 M) 0 (bc []) ∧ Below w.heap.size w w' := by
  obtain ⟨i0, hi, hz0, hz1, hz2⟩ := info_parts Tryz.info5
  obtain ⟨w', h1, h2, h3⟩ := run_make_own w w.heap.size 22 5 i0 (.int .u8 0) 1 Tryz.underlying22 hi hz0 hz1 .i64 .i64 M (by rw [hz2]; omega) (by unfold maxLen; omega) (Nat.le_refl _)
  exact ⟨w', h1, h2, (Below.refl _ _).grown h3 (Nat.le_refl _) (fun k hk => by cases hk)⟩

set_option maxHeartbeats 2000000 in
theorem encode_any (a : Option Addr) (n c : Nat) (xs : List Int) (w : World) (hR : Rd w a n c xs) (hn : n ≤ 1000000) :
    Calls Tryz.prog 23 #[.slice a n c] w fun e w' => e = .returned (.string (strOfNums (enc xs))) ∧ Below w.heap.size w w' := by
  have hl := hR.len
  have hE := enc_len xs
  rw [hl] at hE
  have HB : Hid (Bd (enc xs)) := enc_bd hR.bytes
  obtain ⟨M, hm, hM⟩ : ∃ M : Nat, ((n : Int) + 3 - 1) / 3 * 4 = (M : Int) ∧ M ≤ 10000000 := ⟨(((n : Int) + 3 - 1) / 3 * 4).toNat, by omega, by omega⟩
  obtain ⟨w1, hmk, ho1, hb1⟩ := mk0 w M (by omega)
  have hEl : (enc xs).length ≤ 10000000 := by omega
  have HEl : Hid ((enc xs).length ≤ 10000000) := hEl
  obtain ⟨E, HE⟩ : ∃ E, Hid (enc xs = E) := ⟨_, rfl⟩
  rw [HE.out] at HEl HB ⊢
  go_enter Tryz.func23, Tryz.ntmps23
  go_wp2
  clear hE hEl hmk hm hM hl
  go_loopw [0, 4] (fun sb st wr => ∃ (Y T : List Int) (a1 : Option Addr) (n1 c1 : Nat), sb = .slice a1 n1 c1 ∧ Rd w a1 n1 c1 Y ∧ Hid (T ++ enc Y = E) ∧ wr.ownsRow w.heap.size 5 1 st T.length (bc T) ∧ Below w.heap.size w wr) (fun sb _ _ => lenB sb)
  case atStart => exact ⟨xs, [], a, n, c, rfl, hR, HE.out, ho1, hb1⟩
  case round =>
    obtain ⟨Y, T, a1, n1, c1, rfl, hY, HT, hT, hb⟩ := hrel
    clear ho1 hb1 hR HE
    have hlY := hY.len
    have hcap := hY.cap
    have hTl : T.length ≤ 10000000 := by have := congrArg List.length HT.out; rw [List.length_append] at this; have := HEl.out; omega
    match Y, hlY with
    | [], hlY =>
      have h0 : n1 = 0 := hlY.symm
      subst h0
      have hE : T = E := by have := HT.out; rw [enc, List.append_nil] at this; exact this
      subst hE
      obtain ⟨a4, c4, rfl, hr4⟩ := Rd.ofOwn hT HB.out
      have hcv := hr4.string
      go_wp2
      go_ret
      exact ⟨rfl, hb⟩
    | [x], hlY =>
      have h1 : n1 = 1 := hlY.symm
      subst h1
      obtain ⟨b, off, rfl, _⟩ := hY.flat (by omega)
      have HN : Hid (∀ {w2 : World} {v2}, w2.ownsRow w.heap.size 5 1 v2 (T.length + 4) (bc (T ++ enc [x])) → w2.ownsRow w.heap.size 5 1 v2 (T ++ enc [x]).length (bc (T ++ enc [x]))) := by
        intro w2 v2 h; rw [List.length_append, show (enc [x]).length = 4 from by rw [enc_len]; simp]; exact h
      by_cases hck : c1 = 1
      · subst hck
        go_wp2_with (go_at_call 52; refine (put1 _ _ T w.heap.size b off 1 x _ hT hTl hb.size (hY.carry (Nat.le_refl _) hb)).mono ?_; rintro e w2 ⟨v2, rfl, ho2, hb2⟩)
        exact ⟨⟨[], T ++ enc [x], _, _, _, rfl, rd_zero _, by show _ ++ enc [] = E; rw [enc, List.append_nil]; exact HT.out, HN.out ho2, hb.trans hb2⟩, by simp only [lenB]; omega⟩
      · have hlt : (1 : Int) < (c1 : Int) := by omega
        go_wp2_with (go_at_call 52; refine (put1 _ _ T w.heap.size b off c1 x _ hT hTl hb.size (hY.carry (Nat.le_refl _) hb)).mono ?_; rintro e w2 ⟨v2, rfl, ho2, hb2⟩)
        refine ⟨⟨[], T ++ enc [x], _, _, _, rfl, ⟨rfl, by omega, by have := hY.most; omega, (fun h => by cases h), Bd.nil, fun _ _ j hj => by omega⟩, by show _ ++ enc [] = E; rw [enc, List.append_nil]; exact HT.out, HN.out ho2, hb.trans hb2⟩, by simp only [lenB]; omega⟩
    | [x, y], hlY =>
      have h2 : n1 = 2 := hlY.symm
      subst h2
      obtain ⟨b, off, rfl, _⟩ := hY.flat (by omega)
      have HN : Hid (∀ {w2 : World} {v2}, w2.ownsRow w.heap.size 5 1 v2 (T.length + 4) (bc (T ++ enc [x, y])) → w2.ownsRow w.heap.size 5 1 v2 (T ++ enc [x, y]).length (bc (T ++ enc [x, y]))) := by
        intro w2 v2 h; rw [List.length_append, show (enc [x, y]).length = 4 from by rw [enc_len]; simp]; exact h
      by_cases hck : c1 = 2
      · subst hck
        go_wp2_with (go_at_call 52; refine (put2 _ _ T w.heap.size b off 2 x y _ hT hTl hb.size (hY.carry (Nat.le_refl _) hb)).mono ?_; rintro e w2 ⟨v2, rfl, ho2, hb2⟩)
        exact ⟨⟨[], T ++ enc [x, y], _, _, _, rfl, rd_zero _, by show _ ++ enc [] = E; rw [enc, List.append_nil]; exact HT.out, HN.out ho2, hb.trans hb2⟩, by simp only [lenB]; omega⟩
      · have hlt : (2 : Int) < (c1 : Int) := by omega
        go_wp2_with (go_at_call 52; refine (put2 _ _ T w.heap.size b off c1 x y _ hT hTl hb.size (hY.carry (Nat.le_refl _) hb)).mono ?_; rintro e w2 ⟨v2, rfl, ho2, hb2⟩)
        refine ⟨⟨[], T ++ enc [x, y], _, _, _, rfl, ⟨rfl, by omega, by have := hY.most; omega, (fun h => by cases h), Bd.nil, fun _ _ j hj => by omega⟩, by show _ ++ enc [] = E; rw [enc, List.append_nil]; exact HT.out, HN.out ho2, hb.trans hb2⟩, by simp only [lenB]; omega⟩
    | [x, y, z], hlY =>
      have h3 : n1 = 3 := hlY.symm
      subst h3
      obtain ⟨b, off, rfl, _⟩ := hY.flat (by omega)
      have HN : Hid (∀ {w2 : World} {v2}, w2.ownsRow w.heap.size 5 1 v2 (T.length + 4) (bc (T ++ enc [x, y, z])) → w2.ownsRow w.heap.size 5 1 v2 (T ++ enc [x, y, z]).length (bc (T ++ enc [x, y, z]))) := by
        intro w2 v2 h; rw [List.length_append, show (enc [x, y, z]).length = 4 from by rw [enc_len]; simp]; exact h
      by_cases hck : c1 = 3
      · subst hck
        go_wp2_with (go_at_call 52; refine (put3 _ _ T w.heap.size b off 3 x y z _ hT hTl hb.size (hY.carry (Nat.le_refl _) hb)).mono ?_; rintro e w2 ⟨v2, rfl, ho2, hb2⟩)
        exact ⟨⟨[], T ++ enc [x, y, z], _, _, _, rfl, rd_zero _, by show _ ++ enc [] = E; rw [enc, List.append_nil]; exact HT.out, HN.out ho2, hb.trans hb2⟩, by simp only [lenB]; omega⟩
      · have hlt : (3 : Int) < (c1 : Int) := by omega
        go_wp2_with (go_at_call 52; refine (put3 _ _ T w.heap.size b off c1 x y z _ hT hTl hb.size (hY.carry (Nat.le_refl _) hb)).mono ?_; rintro e w2 ⟨v2, rfl, ho2, hb2⟩)
        refine ⟨⟨[], T ++ enc [x, y, z], _, _, _, rfl, ⟨rfl, by omega, by have := hY.most; omega, (fun h => by cases h), Bd.nil, fun _ _ j hj => by omega⟩, by show _ ++ enc [] = E; rw [enc, List.append_nil]; exact HT.out, HN.out ho2, hb.trans hb2⟩, by simp only [lenB]; omega⟩
    | x :: y :: z :: x' :: R, hlY =>
      simp only [List.length_cons] at hlY
      have hp3 : (3 : Int) < (n1 : Int) := by omega
      have hc3 : (3 : Int) < (c1 : Int) := by omega
      obtain ⟨b, off, rfl, _⟩ := hY.flat (by omega)
      have hP := hY.takeK (k := 3) (by omega)
      simp only [List.take] at hP
      have HD : Hid (Rd w (some ⟨b, off + 3, none⟩) (n1 - 3) (c1 - 3) (x' :: R)) := hY.drop (k := 3) (by omega)
      have HN : Hid (∀ {w2 : World} {v2}, w2.ownsRow w.heap.size 5 1 v2 (T.length + 4) (bc (T ++ enc [x, y, z])) → w2.ownsRow w.heap.size 5 1 v2 (T ++ enc [x, y, z]).length (bc (T ++ enc [x, y, z]))) := by
        intro w2 v2 h; rw [List.length_append, show (enc [x, y, z]).length = 4 from by rw [enc_len]; simp]; exact h
      clear hY hlY
      go_wp2_with (go_at_call 52; refine (put3 _ _ T w.heap.size b off c1 x y z _ hT hTl hb.size (hP.carry (Nat.le_refl _) hb)).mono ?_; rintro e w2 ⟨v2, rfl, ho2, hb2⟩)
      refine ⟨⟨x' :: R, T ++ enc [x, y, z], _, _, _, rfl, HD.out, ?_, HN.out ho2, hb.trans hb2⟩, by simp only [lenB]; omega⟩
      show T ++ enc [x, y, z] ++ enc (x' :: R) = E
      rw [← HT.out, List.append_assoc, ← enc_app [x, y, z] (x' :: R) (by simp)]
      rfl
end Go.Proofs.YtmilcknboaefkaaGreatDoor
