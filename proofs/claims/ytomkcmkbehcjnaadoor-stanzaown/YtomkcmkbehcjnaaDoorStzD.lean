/- stanza.listForm, stanza.partForm: the forms of the parts. -/
import Derived.Test.YtomkcmkbehcjnaaDoorStzC
import Derived.Test.YtomkcmkbehcjnaaDoorRs
namespace Go.Proofs.YtomkcmkbehcjnaaDoor
open Go.RowKit

theorem own_bel {w w' : World} {B e size n : Nat} {v : Value} {xs : List Value} (h : w.ownsRow B e size v n xs) (hb : Below w.heap.size w w') : w'.ownsRow B e size v n xs := by
  obtain ⟨h1, h2⟩ := h
  refine ⟨h1, ?_⟩
  rcases h2 with h2 | ⟨g, cap, cur, hv, hg, hh, r⟩
  · exact Or.inl h2
  · refine Or.inr ⟨g, cap, cur, hv, hg, ?_, r⟩
    rw [hb.block g (Array.getElem?_eq_some_iff.1 hh).1]; exact hh

/-- The forms of texts, one behind the other; a list's form. -/
def tform (s : ByteArray) : List Int := form s.size ++ nums s
def texts : List ByteArray → List Int
  | [] => []
  | s :: r => tform s ++ texts r
def lform (ss : List ByteArray) : List Int := form ss.length ++ texts ss

theorem tform_bd (s : ByteArray) : Bd (tform s) := (form_bd _).append (nums_bd s)
theorem texts_bd : ∀ ss, Bd (texts ss)
  | [] => Bd.nil
  | s :: r => (tform_bd s).append (texts_bd r)
theorem lform_bd (ss : List ByteArray) : Bd (lform ss) := (form_bd _).append (texts_bd ss)
theorem tform_len (s : ByteArray) (h : s.size ≤ 1024) : (tform s).length ≤ 1034 := by
  unfold tform; rw [List.length_append, nums_len]
  have := form_len10 s.size (by omega); omega
theorem texts_len : ∀ (ss : List ByteArray), (∀ s ∈ ss, s.size ≤ 1024) → (texts ss).length ≤ 1034 * ss.length
  | [], _ => by simp [texts]
  | s :: r, h => by
    rw [texts, List.length_append, List.length_cons]
    have := tform_len s (h s (List.mem_cons_self ..))
    have := texts_len r (fun x hx => h x (List.mem_cons_of_mem _ hx))
    omega
theorem texts_append (a b : List ByteArray) : texts (a ++ b) = texts a ++ texts b := by
  induction a with
  | nil => rfl
  | cons s r ih => rw [List.cons_append, texts, texts, ih, List.append_assoc]
theorem texts_snoc {ss : List ByteArray} {k : Nat} (h : k < ss.length) : texts (ss.take (k + 1)) = texts (ss.take k) ++ tform (ss.getD k ⟨#[]⟩) := by
  rw [List.take_add_one, texts_append]
  simp [List.getElem?_eq_getElem h, List.getD, texts]
theorem texts_take_len {ss : List ByteArray} (h : ∀ s ∈ ss, s.size ≤ 1024) {k : Nat} (hk : k ≤ 64) : (texts (ss.take k)).length ≤ 66176 := by
  have h1 := texts_len (ss.take k) (fun s hs => h s (List.mem_of_mem_take hs))
  have : (ss.take k).length ≤ 64 := by rw [List.length_take]; omega
  omega

theorem putT0 (s : ByteArray) (w : World) (hs : s.size ≤ 100000) :
    Calls Tryd.prog 52 #[.slice none 0 0, .string s] w fun e w' => ∃ a' n' c', e = .returned (.slice a' n' c') ∧ Rd w' a' n' c' (tform s) ∧ Below w.heap.size w w' := by
  have h := putTextR none 0 0 [] s w (rd_nil w) (by omega) hs
  simp only [List.nil_append] at h
  exact h

set_option maxHeartbeats 1600000 in
theorem listForm_any (a : Option Addr) (n c : Nat) (ss : List ByteArray) (w : World) (h : SRd w a n c ss) (hn : n ≤ 64) (hs : ∀ s ∈ ss, s.size ≤ 1024) :
    Calls Tryd.prog 53 #[.slice a n c] w fun e w' => ∃ v, e = .returned v ∧ w'.ownsRow w.heap.size 5 1 v (lform ss).length (bc (lform ss)) ∧ Below w.heap.size w w' := by
  have hf10 := form_len10 n (by omega)
  have hw64 : IntKind.u64.wrap (n : Int) = (n : Int) := by rw [IntKind.wrap_u64]; omega
  have cP := putUint_any none 0 0 [] n w (rd_nil w) (by omega) (by omega)
  simp only [Nat.zero_add, List.nil_append] at cP
  go_enter Tryd.func53, Tryd.ntmps53
  go_wp2_with (go_at_call 26; refine cP.mono ?_; rintro e w1 ⟨v1, rfl, hown1, hb1⟩)
  go_loopw [3, 12] (fun v i wr => ∃ k : Nat, k ≤ n ∧ i = .int .i64 k ∧ wr.ownsRow w.heap.size 5 1 v (form n ++ texts (ss.take k)).length (bc (form n ++ texts (ss.take k))) ∧ Below w.heap.size w wr) (fun _ i _ => n - (intOf i).toNat)
  case atStart => exact ⟨0, by omega, rfl, by simpa [texts] using hown1, hb1⟩
  case round =>
    obtain ⟨k, hk, rfl, hown, hb⟩ := hrel
    clear cP hown1 hb1 hw64
    by_cases hkn : (k : Int) < (n : Int)
    · have hkl : k < ss.length := by rw [h.len]; omega
      obtain ⟨b, off, rfl, hcell⟩ := (h.carry hb).flat (by omega)
      have hc := hcell k (by omega)
      have hsm := hs _ (getD_mem' hkl)
      have hcap := h.cap
      have hmost := h.most
      unfold maxLen at hmost
      have HX : Hid (texts (ss.take (k + 1)) = texts (ss.take k) ++ tform (ss.getD k ⟨#[]⟩)) := texts_snoc hkl
      have hl1 := texts_take_len hs (k := k) (by omega)
      have hl2 : (form n ++ texts (ss.take k)).length ≤ 66186 := by rw [List.length_append]; omega
      have hl3 := tform_len _ hsm
      have hsz := hb.size
      clear hcell hkl h hs hl1
      generalize ss.getD k ⟨#[]⟩ = s at hc hsm HX hl3
      generalize hX : form n ++ texts (ss.take k) = X at hown hl2
      have HXX : Hid (form n ++ texts (ss.take k) = X) := hX
      clear hX
      go_wp2_with (first
        | (go_at_call 52; refine (putT0 s _ (by omega)).mono ?_; rintro e w2 ⟨a2, n2, c2, rfl, hr2, hb2⟩; have hn2 : n2 ≤ 1034 := (by rw [← hr2.len]; exact hl3); have hown2 := own_bel hown hb2; have hsz2 := hb2.size)
        | (at_builtin; refine wp_app rfl _ _ rfl w.heap.size _ _ _ rfl hown2 a2 n2 c2 _ rfl hr2 (by omega) (by omega) ?_; intro v3 w3 hown3 hg3))
      have hb3 : Below w.heap.size w w3 := (hb.trans (hb2.mono hsz)).grown hg3 (by omega) (fun q hq => (hown2.lt q hq).1)
      have hl4 : X.length + n2 = (X ++ tform s).length := by rw [List.length_append, hr2.len]
      rw [hl4] at hown3
      clear hown hown2 hg3 hb hb2 hr2 hl4
      go_wp2
      go_roundw
      case rel =>
        refine ⟨k + 1, by omega, by go_num, ?_, hb3⟩
        rw [HX.out, ← List.append_assoc, HXX.out]
        exact hown3
      case measure => simp [intOf]; omega
    · have hke : k = n := by omega
      subst hke
      have HL : Hid (lform ss = form k ++ texts (ss.take k)) := by
        unfold lform; rw [h.len, List.take_of_length_le (by rw [h.len]; exact Nat.le_refl _)]; rfl
      go_wp2
      go_ret
      rw [HL.out]
      exact ⟨_, rfl, hown, hb⟩

/-- The form of a part. -/
def pf (A B T : ByteArray) (L : List ByteArray) (N : Int) (F : Nat) : Nat → List Int
  | 0 => tform A
  | 1 => tform B
  | 2 => tform T
  | 3 => lform L
  | 4 => form (foldv N)
  | _ => fbl (bitsv F) 8

section
variable (K : Int) (I : Nat) (A B T : ByteArray) (la : Option Addr) (ln lc : Nat) (N : Int) (F : Nat) (w : World)
theorem partForm_0 (h : A.size ≤ 1024) : Calls Tryd.prog 27 #[.agg #[.int .i64 K, .int .u64 I, .string A, .string B, .string T, .slice la ln lc, .int .i64 N, .float .f64 F], .int .u8 1] w fun e w' => ∃ a' n' c', e = .returned (.slice a' n' c') ∧ Rd w' a' n' c' (tform A) ∧ Below w.heap.size w w' := by
  have hb0 : Below w.heap.size w (w.alloc (.cells #[.int .i64 K, .int .u64 I, .string A, .string B, .string T, .slice la ln lc, .int .i64 N, .float .f64 F] 26)) := (Below.refl _ _).alloc (Nat.le_refl _) _
  go_enter Tryd.func27, Tryd.ntmps27
  go_wp2_with (go_at_call 52; refine (putT0 A _ (by omega)).mono ?_; rintro e w1 ⟨a1, n1, c1, rfl, hr, hb⟩)
  go_ret
  exact ⟨_, _, _, rfl, hr, hb0.trans (hb.mono hb0.size)⟩
theorem partForm_1 (h : B.size ≤ 1024) : Calls Tryd.prog 27 #[.agg #[.int .i64 K, .int .u64 I, .string A, .string B, .string T, .slice la ln lc, .int .i64 N, .float .f64 F], .int .u8 2] w fun e w' => ∃ a' n' c', e = .returned (.slice a' n' c') ∧ Rd w' a' n' c' (tform B) ∧ Below w.heap.size w w' := by
  have hb0 : Below w.heap.size w (w.alloc (.cells #[.int .i64 K, .int .u64 I, .string A, .string B, .string T, .slice la ln lc, .int .i64 N, .float .f64 F] 26)) := (Below.refl _ _).alloc (Nat.le_refl _) _
  go_enter Tryd.func27, Tryd.ntmps27
  go_wp2_with (go_at_call 52; refine (putT0 B _ (by omega)).mono ?_; rintro e w1 ⟨a1, n1, c1, rfl, hr, hb⟩)
  go_ret
  exact ⟨_, _, _, rfl, hr, hb0.trans (hb.mono hb0.size)⟩
theorem partForm_2 (h : T.size ≤ 1024) : Calls Tryd.prog 27 #[.agg #[.int .i64 K, .int .u64 I, .string A, .string B, .string T, .slice la ln lc, .int .i64 N, .float .f64 F], .int .u8 4] w fun e w' => ∃ a' n' c', e = .returned (.slice a' n' c') ∧ Rd w' a' n' c' (tform T) ∧ Below w.heap.size w w' := by
  have hb0 : Below w.heap.size w (w.alloc (.cells #[.int .i64 K, .int .u64 I, .string A, .string B, .string T, .slice la ln lc, .int .i64 N, .float .f64 F] 26)) := (Below.refl _ _).alloc (Nat.le_refl _) _
  go_enter Tryd.func27, Tryd.ntmps27
  go_wp2_with (go_at_call 52; refine (putT0 T _ (by omega)).mono ?_; rintro e w1 ⟨a1, n1, c1, rfl, hr, hb⟩)
  go_ret
  exact ⟨_, _, _, rfl, hr, hb0.trans (hb.mono hb0.size)⟩
theorem partForm_3 (L : List ByteArray) (hR : SRd w la ln lc L) (hn : ln ≤ 64) (hs : ∀ s ∈ L, s.size ≤ 1024) : Calls Tryd.prog 27 #[.agg #[.int .i64 K, .int .u64 I, .string A, .string B, .string T, .slice la ln lc, .int .i64 N, .float .f64 F], .int .u8 8] w fun e w' => ∃ a' n' c', e = .returned (.slice a' n' c') ∧ Rd w' a' n' c' (lform L) ∧ Below w.heap.size w w' := by
  have hb0 : Below w.heap.size w (w.alloc (.cells #[.int .i64 K, .int .u64 I, .string A, .string B, .string T, .slice la ln lc, .int .i64 N, .float .f64 F] 26)) := (Below.refl _ _).alloc (Nat.le_refl _) _
  go_enter Tryd.func27, Tryd.ntmps27
  go_wp2_with (go_at_call 53; refine (listForm_any la ln lc L _ (hR.carry hb0) hn hs).mono ?_; rintro e w1 ⟨v1, rfl, ho, hb⟩; obtain ⟨a1, c1, rfl, hr⟩ := Rd.ofOwn ho (lform_bd L))
  go_ret
  exact ⟨_, _, _, rfl, hr, hb0.trans (hb.mono hb0.size)⟩
theorem partForm_4 (h0 : -9223372036854775808 ≤ N) (h1 : N ≤ 9223372036854775807) : Calls Tryd.prog 27 #[.agg #[.int .i64 K, .int .u64 I, .string A, .string B, .string T, .slice la ln lc, .int .i64 N, .float .f64 F], .int .u8 16] w fun e w' => ∃ a' n' c', e = .returned (.slice a' n' c') ∧ Rd w' a' n' c' (form (foldv N)) ∧ Below w.heap.size w w' := by
  have hb0 : Below w.heap.size w (w.alloc (.cells #[.int .i64 K, .int .u64 I, .string A, .string B, .string T, .slice la ln lc, .int .i64 N, .float .f64 F] 26)) := (Below.refl _ _).alloc (Nat.le_refl _) _
  go_enter Tryd.func27, Tryd.ntmps27
  go_wp2_with (go_at_call 54; refine (putIntR none 0 0 [] N _ (rd_nil _) (by omega) h0 h1).mono ?_; rintro e w1 ⟨a1, n1, c1, rfl, hr, hb⟩)
  go_ret
  exact ⟨_, _, _, rfl, hr, hb0.trans (Below.mono hb hb0.size)⟩
theorem partForm_5 (h : F < 18446744073709551616) : Calls Tryd.prog 27 #[.agg #[.int .i64 K, .int .u64 I, .string A, .string B, .string T, .slice la ln lc, .int .i64 N, .float .f64 F], .int .u8 32] w fun e w' => ∃ a' n' c', e = .returned (.slice a' n' c') ∧ Rd w' a' n' c' (fbl (bitsv F) 8) ∧ Below w.heap.size w w' := by
  have hb0 : Below w.heap.size w (w.alloc (.cells #[.int .i64 K, .int .u64 I, .string A, .string B, .string T, .slice la ln lc, .int .i64 N, .float .f64 F] 26)) := (Below.refl _ _).alloc (Nat.le_refl _) _
  go_enter Tryd.func27, Tryd.ntmps27
  go_wp2_with (go_at_call 55; refine (putFloatR none 0 0 [] F _ (rd_nil _) (by omega) h).mono ?_; rintro e w1 ⟨a1, n1, c1, rfl, hr, hb⟩)
  go_ret
  exact ⟨_, _, _, rfl, hr, hb0.trans (Below.mono hb hb0.size)⟩
end

end Go.Proofs.YtomkcmkbehcjnaaDoor
