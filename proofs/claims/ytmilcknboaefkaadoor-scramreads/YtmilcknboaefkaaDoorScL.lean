/- Where a text stands last in another; a final message's form, the program's way and the document's. -/
import Derived.Test.YtmilcknboaefkaaDoorScG
import Derived.Test.YtmilcknboaefkaaDoorScS
namespace Go.Proofs.YtmilcknboaefkaaDoor
open Go.RowKit Go.Shelf

def lastF (p L : Tx) : Nat → Int
  | 0 => -1
  | i + 1 => if (sgn p (L.drop i)).isSome then (i : Int) else lastF p L i
theorem lastF_cases (p L : Tx) : ∀ i, (lastF p L i = -1 ∧ ∀ j, j < i → sgn p (L.drop j) = none) ∨ (∃ k, k < i ∧ lastF p L i = (k : Int) ∧ (sgn p (L.drop k)).isSome = true ∧ ∀ j, k < j → j < i → sgn p (L.drop j) = none)
  | 0 => .inl ⟨rfl, fun _ h => by omega⟩
  | i + 1 => by
    rw [lastF]
    cases h : sgn p (L.drop i) with
    | some r => exact .inr ⟨i, by omega, by simp, by rw [h]; rfl, fun j h1 h2 => by omega⟩
    | none =>
      simp only [Option.isSome_none, Bool.false_eq_true, if_false]
      rcases lastF_cases p L i with ⟨h1, h2⟩ | ⟨k, hk, h1, h2, h3⟩
      · exact .inl ⟨h1, fun j hj => by rcases Nat.lt_or_ge j i with q | q; exact h2 j q; rw [show j = i by omega]; exact h⟩
      · exact .inr ⟨k, by omega, h1, h2, fun j h4 h5 => by rcases Nat.lt_or_ge j i with q | q; exact h3 j h4 q; rw [show j = i by omega]; exact h⟩
theorem sgn_short {p L : Tx} (h : L.length < p.length) : sgn p L = none := by
  cases hs : sgn p L with
  | none => rfl
  | some r => rw [sgn_some.1 hs, List.length_append] at h; omega
theorem lastF_more {p L : Tx} {i : Nat} (h : L.length < i + p.length) (hp : 1 ≤ p.length) : ∀ d, lastF p L (i + d) = lastF p L i
  | 0 => rfl
  | d + 1 => by
    rw [← Nat.add_assoc, lastF, sgn_short (by rw [List.length_drop]; omega)]
    simp only [Option.isSome_none, Bool.false_eq_true, if_false]
    exact lastF_more h hp d
def lastI (p L : Tx) : Int := lastF p L (L.length + 1)
theorem mid_eq (L p : Tx) (i : Nat) : ((L.drop i).take p.length = p) ↔ (sgn p (L.drop i)).isSome = true := by
  constructor
  · intro h
    have : L.drop i = p ++ (L.drop i).drop p.length := by conv => lhs; rw [← List.take_append_drop p.length (L.drop i), h]
    rw [sgn_some.2 this]; rfl
  · intro h
    obtain ⟨r, hr⟩ := Option.isSome_iff_exists.1 h
    rw [sgn_some.1 hr]; simp

set_option maxHeartbeats 1000000 in
theorem last_any (L : Tx) (w : World) (hL : L.length ≤ 1000000) :
    Calls Tryd.prog 23 #[.string ⟨L.toArray⟩, .string ⟨#[44, 112, 61]⟩] w fun e w' => e = .returned (.int .i64 (lastI [44, 112, 61] L)) ∧ w' = w := by
  have hz := size_tx L
  have hz1 : (⟨#[44, 112, 61]⟩ : ByteArray).size = 3 := rfl
  have HX : Hid (∀ i, (⟨L.toArray⟩ : ByteArray).extract i (i + 3) = ⟨((L.drop i).take 3).toArray⟩) := fun i => cut_mid L i 3
  obtain ⟨S, HS⟩ : ∃ S, Hid ((⟨L.toArray⟩ : ByteArray) = S) := ⟨_, rfl⟩
  rw [HS.out] at hz HX ⊢
  obtain ⟨R, HR⟩ : ∃ R, Hid (lastI [44, 112, 61] L = R) := ⟨_, rfl⟩
  rw [HR.out]
  obtain ⟨n, Hn⟩ : ∃ n, Hid (L.length = n) := ⟨_, rfl⟩
  rw [Hn.out] at hz hL
  go_enter Tryd.func23, Tryd.ntmps23
  go_wp2
  go_loop [5, 6] (fun sk si => ∃ i : Nat, i ≤ n + 1 ∧ si = .int .i64 (i : Int) ∧ sk = .int .i64 (lastF [44, 112, 61] L i)) (fun _ si => n + 1 - nV si)
  case atStart => exact ⟨0, Nat.zero_le _, rfl, rfl⟩
  case round =>
    obtain ⟨i, hi, rfl, rfl⟩ := hrel
    have hlf := lastF_cases [44, 112, 61] L i
    have hlo : -1 ≤ lastF [44, 112, 61] L i ∧ lastF [44, 112, 61] L i ≤ (i : Int) := by
      rcases hlf with ⟨h, _⟩ | ⟨k, hk, h, _⟩ <;> omega
    clear hlf
    rcases Nat.lt_or_ge n (i + 3) with hge | hlt
    · have hli : ¬ ((i : Int) + 3 ≤ (n : Int)) := by omega
      have hR : R = lastF [44, 112, 61] L i := by
        rw [← HR.out]
        unfold lastI
        rw [Hn.out, show n + 1 = i + (n + 1 - i) by omega]
        exact lastF_more (by rw [Hn.out]; exact hge) (by decide) _
      obtain ⟨x, Hx⟩ : ∃ x, Hid (lastF [44, 112, 61] L i = x) := ⟨_, rfl⟩
      rw [Hx.out] at hlo hR ⊢
      subst hR
      go_wp2
      go_ret
      exact ⟨rfl, rfl⟩
    · have hli : (i : Int) + 3 ≤ (n : Int) := by omega
      have hex := HX.out i
      have heq := tx_eq ((L.drop i).take 3) [44, 112, 61]
      have hmid : ((L.drop i).take 3 = [44, 112, 61]) ↔ _ := mid_eq L [44, 112, 61] i
      have hle : (i : Int) ≤ (i : Int) + 3 := by omega
      cases hs : (sgn [44, 112, 61] (L.drop i)).isSome with
      | true =>
        rw [decide_eq_true (hmid.2 hs)] at heq
        have hN : lastF [44, 112, 61] L (i + 1) = (i : Int) := by rw [lastF, hs]; rfl
        obtain ⟨T, HT⟩ : ∃ T, Hid ((⟨((L.drop i).take 3).toArray⟩ : ByteArray) = T) := ⟨_, rfl⟩
        rw [HT.out] at hex heq
        have heq' : (T.toList == [44, 112, 61]) = true := by rw [tx_list [44, 112, 61]] at heq; exact heq
        obtain ⟨x, Hx⟩ : ∃ x, Hid (lastF [44, 112, 61] L i = x) := ⟨_, rfl⟩
        rw [Hx.out] at hlo ⊢
        clear hmid hs HX
        go_wp2
        go_round
        case rel => exact ⟨i + 1, by omega, by push_cast; rfl, by rw [hN]⟩
        case measure => simp [nV]; omega
      | false =>
        rw [decide_eq_false (fun h => by rw [hmid.1 h] at hs; cases hs)] at heq
        have hN : lastF [44, 112, 61] L (i + 1) = lastF [44, 112, 61] L i := by rw [lastF, hs]; simp
        obtain ⟨T, HT⟩ : ∃ T, Hid ((⟨((L.drop i).take 3).toArray⟩ : ByteArray) = T) := ⟨_, rfl⟩
        rw [HT.out] at hex heq
        have heq' : (T.toList == [44, 112, 61]) = false := by rw [tx_list [44, 112, 61]] at heq; exact heq
        obtain ⟨x, Hx⟩ : ∃ x, Hid (lastF [44, 112, 61] L i = x) := ⟨_, rfl⟩
        rw [Hx.out] at hlo hN ⊢
        clear hmid hs HX
        go_wp2
        go_round
        case rel => exact ⟨i + 1, by omega, by push_cast; rfl, by rw [hN]⟩
        case measure => simp [nV]; omega

/-! ### a final message's form -/
theorem dg_comma (v : Nat) : dg v ≠ 44 := by
  have hd : ∀ v : Fin 64, dg v.val ≠ 44 := by decide +kernel
  rcases Nat.lt_or_ge v 64 with h | h
  · exact hd ⟨v, h⟩
  · unfold dg; rw [List.getD_eq_getElem?_getD, List.getElem?_eq_none (by rw [dgs_len]; exact h)]; decide
theorem enc_comma : ∀ (b : List Int), (44 : Int) ∉ enc b
  | [] => by simp [enc]
  | [a] => by simp [enc, Ne.symm (dg_comma _)]
  | [a, b] => by simp [enc, Ne.symm (dg_comma _)]
  | a :: b :: c :: r => by simp [enc, Ne.symm (dg_comma _), enc_comma r]
theorem dec_comma {l : Tx} {X : List Int} (h : dec (il l) = some X) : (44 : UInt8) ∉ l := fun hm => by
  have he := (dec_some h).1
  have : (44 : Int) ∈ il l := by
    simp only [il, List.mem_map]
    exact ⟨44, hm, rfl⟩
  rw [← he] at this
  exact enc_comma X this

/-- The form of a final message. -/
def FormL (L : Tx) (f : LP) : Prop := ∃ A P : Tx, ∃ h : List Int, L = [99, 61] ++ A ++ ([44, 114, 61] ++ (f.no ++ ([44, 112, 61] ++ P))) ∧ dec (il A) = some h ∧ f.hd = tx h ∧ nonceB 256 f.no = true ∧ dec (il P) = some f.pf ∧ f.pf.length = 32 ∧ f.ba = [99, 61] ++ A ++ ([44, 114, 61] ++ f.no)
theorem take_pre (B T : Tx) : (B ++ T).take ((B ++ T).length - T.length) = B := by simp
theorem lastO_form {L : Tx} {f : LP} : lastO L = some f ↔ FormL L f := by
  constructor
  · intro h
    unfold lastO at h
    obtain ⟨r, h1, h⟩ := Option.bind_eq_some_iff.1 h
    unfold last1 at h
    obtain ⟨X, h2, h⟩ := Option.bind_eq_some_iff.1 h
    unfold last2 at h
    obtain ⟨r2, h3, h⟩ := Option.bind_eq_some_iff.1 h
    unfold last3 at h
    split at h
    · rename_i h4
      unfold last4 at h
      obtain ⟨r3, h5, h⟩ := Option.bind_eq_some_iff.1 h
      unfold last5 at h
      obtain ⟨X2, h6, h⟩ := Option.bind_eq_some_iff.1 h
      split at h
      · rename_i h7
        split at h
        · rename_i h8
          obtain rfl := Option.some.inj h
          have e3 : r3 = prt r3 := by have := prt_rst r3; rw [h8, List.append_nil] at this; exact this.symm
          have e2 : r2 = prt r2 ++ ([44, 112, 61] ++ r3) := by rw [← sgn_some.1 h5]; exact (prt_rst r2).symm
          have e1 : r = prt r ++ ([44, 114, 61] ++ r2) := by rw [← sgn_some.1 h3]; exact (prt_rst r).symm
          have e0 := sgn_some.1 h1
          refine ⟨prt r, prt r3, X, ?_, h2, rfl, h4, h6, h7, ?_⟩
          · dsimp only
            rw [← e3, ← e2, List.append_assoc, ← e1]; exact e0
          · dsimp only
            have hL : L = ([99, 61] ++ prt r ++ ([44, 114, 61] ++ prt r2)) ++ rst r2 := by
              rw [e0]; conv => lhs; rw [e1]
              simp only [List.append_assoc]
              rw [prt_rst]
            rw [hL]; exact take_pre _ _
        · cases h
      · cases h
    · cases h
  · rintro ⟨A, P, h, hL, h1, h2, h3, h4, h5, h6⟩
    have cA := dec_comma h1
    have cP := dec_comma h4
    have cN := nonce_comma h3
    obtain ⟨hd, no, pf, ba⟩ := f
    dsimp only at hL h2 h3 h4 h5 h6 cN
    subst h2
    have e0 : L = [99, 61] ++ (A ++ 44 :: ([114, 61] ++ (no ++ ([44, 112, 61] ++ P)))) := by rw [hL]; simp
    unfold lastO
    rw [sgn_some.2 e0]
    simp only [Option.bind_some]
    unfold last1
    rw [prt_app cA, rst_app cA, h1]
    simp only [Option.bind_some]
    unfold last2
    rw [show (44 :: ([114, 61] ++ (no ++ ([44, 112, 61] ++ P))) : Tx) = [44, 114, 61] ++ (no ++ 44 :: ([112, 61] ++ P)) by simp, sgn_app]
    simp only [Option.bind_some]
    unfold last3
    rw [prt_app cN, rst_app cN, if_pos h3]
    unfold last4
    rw [show (44 :: ([112, 61] ++ P) : Tx) = [44, 112, 61] ++ P by simp, sgn_app]
    simp only [Option.bind_some]
    unfold last5
    rw [prt_all cP, rst_all cP, h4]
    simp only [Option.bind_some]
    rw [if_pos h5, if_pos trivial]
    have : L.take (L.length - ([44, 112, 61] ++ P).length) = ba := by
      rw [h6, show L = ([99, 61] ++ A ++ ([44, 114, 61] ++ no)) ++ ([44, 112, 61] ++ P) by rw [hL]; simp only [List.append_assoc]]
      exact take_pre _ _
    rw [this]

/-- The document's way: parted at the last ',p='. -/
def refO (L : Tx) (k : Nat) : Option LP :=
  if ix 44 (L.take k) < (L.take k).length then
    (sgn [99, 61] (prt (L.take k))).bind fun c => (dec (il c)).bind fun h => (sgn [44, 114, 61] (rst (L.take k))).bind fun n =>
      if nonceB 256 n = true then (dec (il (L.drop (k + 3)))).bind fun pf => if pf.length = 32 then some ⟨tx h, n, pf, L.take k⟩ else none else none
  else none
theorem refO_form {L : Tx} {f : LP} {k : Nat} (hk : (sgn [44, 112, 61] (L.drop k)).isSome = true) (hlast : ∀ j, k < j → sgn [44, 112, 61] (L.drop j) = none) : refO L k = some f ↔ FormL L f := by
  obtain ⟨T, hT⟩ := Option.isSome_iff_exists.1 hk
  have hT' := sgn_some.1 hT
  have hLk : L = L.take k ++ ([44, 112, 61] ++ T) := by rw [← hT']; exact (List.take_append_drop k L).symm
  have hkl : k ≤ L.length := by
    rcases Nat.lt_or_ge L.length k with h | h
    · rw [List.drop_of_length_le (by omega)] at hT'; simp at hT'
    · exact h
  have hT3 : L.drop (k + 3) = T := by rw [← List.drop_drop, hT']; rfl
  constructor
  · intro h
    unfold refO at h
    split at h
    · rename_i h0
      obtain ⟨c, h1, h⟩ := Option.bind_eq_some_iff.1 h
      obtain ⟨X, h2, h⟩ := Option.bind_eq_some_iff.1 h
      obtain ⟨n, h3, h⟩ := Option.bind_eq_some_iff.1 h
      split at h
      · rename_i h4
        obtain ⟨pf, h5, h⟩ := Option.bind_eq_some_iff.1 h
        split at h
        · rename_i h6
          obtain rfl := Option.some.inj h
          have hb : L.take k = [99, 61] ++ c ++ ([44, 114, 61] ++ n) := by rw [← sgn_some.1 h1, ← sgn_some.1 h3]; exact (prt_rst _).symm
          rw [hT3] at h5
          refine ⟨c, T, X, ?_, h2, rfl, h4, h5, h6, hb⟩
          dsimp only
          conv => lhs; rw [hLk]
          rw [hb]; simp only [List.append_assoc]
        · cases h
      · cases h
    · cases h
  · rintro ⟨A, P, h, hL, h1, h2, h3, h4, h5, h6⟩
    have cA := dec_comma h1
    have cP := dec_comma h4
    have cN := nonce_comma h3
    obtain ⟨hd, no, pf, ba⟩ := f
    dsimp only at hL h2 h3 h4 h5 h6 cN
    subst h2
    -- the last place is the one behind the nonce
    have hL2 : L = ba ++ ([44, 112, 61] ++ P) := by rw [hL, h6]; simp only [List.append_assoc]
    have hkb : k = ba.length := by
      rcases Nat.lt_trichotomy k ba.length with q | q | q
      · have := hlast ba.length q
        rw [hL2, List.drop_left, sgn_app] at this; cases this
      · exact q
      · exfalso
        have hm : (44 : UInt8) ∈ L.drop k := by rw [hT']; simp
        have hd : L.drop k = ([112, 61] ++ P).drop (k - ba.length - 1) := by
          obtain ⟨m, hm⟩ : ∃ m, k - ba.length = m + 1 := ⟨k - ba.length - 1, by omega⟩
          rw [hL2, List.drop_append, List.drop_of_length_le (by omega), hm]; simp
        rw [hd] at hm
        have := List.mem_of_mem_drop hm
        simp at this
        exact cP this
    have htk : L.take k = ba := by rw [hkb, hL2]; simp
    have htd : L.drop (k + 3) = P := by rw [← List.drop_drop, hkb, hL2, List.drop_left]; rfl
    have hb2 : ba = ([99, 61] ++ A) ++ 44 :: ([114, 61] ++ no) := by rw [h6]; simp
    have cB : (44 : UInt8) ∉ ([99, 61] ++ A : Tx) := by simp [cA]
    unfold refO
    rw [htk, htd, if_pos (by rw [hb2, ix_app cB]; simp), show prt ba = [99, 61] ++ A by rw [hb2]; exact prt_app cB _, sgn_app]
    simp only [Option.bind_some]
    rw [h1]
    simp only [Option.bind_some]
    rw [show rst ba = [44, 114, 61] ++ no by rw [hb2, rst_app cB]; simp, sgn_app]
    simp only [Option.bind_some]
    rw [if_pos h3, h4]
    simp only [Option.bind_some]
    rw [if_pos h5]

/-- The two ways tell the same. -/
theorem ref_last_none {L : Tx} (h : lastI [44, 112, 61] L = -1) : lastO L = none := by
  cases hl : lastO L with
  | none => rfl
  | some f =>
    obtain ⟨A, P, _, hL, _, _, _, _, _, hb⟩ := lastO_form.1 hl
    have hL2 : L = f.ba ++ ([44, 112, 61] ++ P) := by rw [hL, hb]; simp only [List.append_assoc]
    rcases lastF_cases [44, 112, 61] L (L.length + 1) with ⟨_, h2⟩ | ⟨k, _, h2, _⟩
    · have := h2 f.ba.length (by rw [hL2, List.length_append]; omega)
      rw [hL2, List.drop_left, sgn_app] at this; cases this
    · unfold lastI at h; omega
theorem ref_last_some {L : Tx} {k : Nat} (h : lastI [44, 112, 61] L = (k : Int)) : lastO L = refO L k ∧ k + 3 ≤ L.length := by
  rcases lastF_cases [44, 112, 61] L (L.length + 1) with ⟨h1, _⟩ | ⟨k', hk', h1, h2, h3⟩
  · unfold lastI at h; omega
  · have : k' = k := by unfold lastI at h; omega
    subst this
    have hall : ∀ j, k' < j → sgn [44, 112, 61] (L.drop j) = none := fun j hj => by
      rcases Nat.lt_or_ge j (L.length + 1) with q | q
      · exact h3 j hj q
      · exact sgn_short (by rw [List.length_drop]; simp; omega)
    refine ⟨?_, ?_⟩
    · apply Option.ext
      intro f
      rw [lastO_form, refO_form h2 hall]
    · obtain ⟨T, hT⟩ := Option.isSome_iff_exists.1 h2
      have := congrArg List.length (sgn_some.1 hT)
      rw [List.length_drop, List.length_append] at this
      simp at this
      omega
end Go.Proofs.YtmilcknboaefkaaDoor
