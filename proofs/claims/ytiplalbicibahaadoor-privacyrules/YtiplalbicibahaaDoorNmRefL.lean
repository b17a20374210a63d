/- The document's Local. -/
import Derived.Test.YtiplalbicibahaaDoorNmRefA
import Derived.Test.YtiplalbicibahaaDoorNmRefV
import Derived.Test.YtiplalbicibahaaDoorNmEach
import Derived.Laws.Cover4
namespace Go.Proofs.YtiplalbicibahaaDoor.Nm
open Go.RowKit

theorem enc_small (r : Int) (h0 : 0 ≤ r) (h1 : r < 2048) : Utf8.encode r = ⟨(Lib.encodeRune r).toArray⟩ := by
  obtain ⟨n, rfl⟩ := Int.eq_ofNat_of_zero_le h0
  have v : Utf8.valid (n : Int) = true := by simp [Utf8.valid]; omega
  have hb : ∀ a b : ByteArray, a.data.toList = b.data.toList → a = b := fun a b h => by
    cases a; cases b
    exact congrArg ByteArray.mk (Array.toList_inj.1 h)
  apply hb
  by_cases h : n < 128
  · rw [Lib.encodeRune, Lib.encodeRuneZ_one (by omega) (by omega)]
    simp [Utf8.encode, v, h]
  · rw [Lib.encodeRune, Lib.encodeRuneZ_two (by omega) (by omega)]
    have h2 : n < 2048 := by omega
    simp [Utf8.encode, v, h, h2]
    have e1 : (192 + (n : Int) / 64).toNat = 192 + n / 64 := by omega
    have e2 : (128 + (n : Int) % 64).toNat = 128 + n % 64 := by omega
    rw [e1, e2]
    exact ⟨UInt8.ofNat_add _ _ ▸ rfl, UInt8.ofNat_add _ _ ▸ rfl⟩

theorem letter_lim (r : Int) (h : letterB r = true) : 0 ≤ r ∧ r < 2048 := by
  unfold letterB at h
  simp only [decide_eq_true_eq] at h
  omega

set_option maxHeartbeats 4000000 in
set_option maxRecDepth 1000000 in
theorem refLocal_any (s : ByteArray) (w : World) (hs : s.size ≤ 9223372036854775807) :
    Calls Tryd.prog 20 #[.string s] w fun e w' => e = .returned (.tuple #[.string ⟨(localN s.data.toList).1.toArray⟩, .int .i64 (localN s.data.toList).2]) ∧ Below w.heap.size w w' := by
  have hlen : s.data.toList.length = s.size := by simp
  rw [localN, prep_eachX]
  unfold eachX
  rw [hlen]
  by_cases h64 : 64 < s.size
  · rw [if_pos h64]
    have h64' : (64 : Int) < (s.size : Int) := by omega
    go_enter Tryd.func20, Tryd.ntmps20
    go_wp2
    go_ret2
    exact ⟨rfl, Below.refl _ _⟩
  rw [if_neg h64]
  have h64' : ¬ (64 : Int) < (s.size : Int) := by omega
  by_cases h0 : s.data.toList = []
  · rw [if_pos (.inl h0)]
    have hemp : s.toList.isEmpty = true := by rw [Lib.toList_data, h0]; rfl
    go_enter Tryd.func20, Tryd.ntmps20
    go_wp2
    go_ret2
    exact ⟨rfl, Below.refl _ _⟩
  have hemp : s.toList.isEmpty = false := by
    rw [Lib.toList_data]
    cases h : s.data.toList with
    | nil => exact absurd h h0
    | cons b t => rfl
  have cV := refValid_any s w (by omega)
  rw [vld_nums] at cV
  generalize hV : Lib.validD s.data.toList = V at cV ⊢
  cases V with
  | false =>
    rw [if_pos (.inr rfl)]
    go_enter Tryd.func20, Tryd.ntmps20
    go_wp2_with (go_at_call 38; refine cV.mono ?_; rintro e w0 ⟨rfl, rfl⟩)
    go_ret2
    exact ⟨rfl, Below.refl _ _⟩
  | true =>
    rw [if_neg (by simp [h0])]
    obtain ⟨R, hR⟩ : ∃ R, finX (fun _ => true) (ofEach (each stepL 46 s.data.toList)) = R := ⟨_, rfl⟩
    rw [hR]
    go_enter Tryd.func20, Tryd.ntmps20
    go_wp2_with (go_at_call 38; refine cV.mono ?_; rintro e w0 ⟨rfl, rfl⟩)
    go_loopw [4] (fun out wr => ∃ (pos : Nat) (st : Int) (acc : List UInt8), out = .string ⟨acc.toArray⟩ ∧ wr.heap[w0.heap.size]? = some (.stringIter s pos) ∧ Below w0.heap.size w0 wr ∧ acc.length ≤ 4 * pos ∧ pos ≤ s.size ∧
      each stepL 46 s.data.toList = (match each stepL st (s.data.toList.drop pos) with | none => none | some (bs, st') => some (acc ++ bs, st'))) (fun _ wr => s.size - wr.iterPos w0.heap.size)
    case atStart =>
      refine ⟨0, 46, [], rfl, World.iter_heap w0 s 0, (Below.refl _ _).alloc (Nat.le_refl _) _, by simp, by omega, ?_⟩
      rw [List.drop_zero]
      cases each stepL 46 s.data.toList with
      | none => rfl
      | some p => rfl
    case round =>
      obtain ⟨pos, st, acc, rfl, hit, hbw, hal, hps, hea⟩ := hrel
      by_cases hp : pos < s.size
      · have hnx : ∀ ty, (Instr.next (.pointer (some ⟨w0.heap.size, 0, none⟩)) true ty).run Tryd.prog wr = _ := fun ty => Lib.run_next_any_at wr w0.heap.size s pos ty hit hp
        have hwd := dec_width s pos
        have hru := dec_rune s pos
        have hne : s.data.toList.drop pos ≠ [] := by
          intro h
          have := congrArg List.length h
          rw [List.length_drop, hlen] at this
          simp at this; omega
        have hwl := Lib.decodeL_le _ hne
        rw [Lib.decodeL_drop, List.length_drop, hlen] at hwl
        rw [each_step stepL st _ hne, Lib.decodeL_drop, List.drop_drop] at hea
        have hit2 := Lib.iterAt_heap wr w0.heap.size s pos (pos + (Utf8.decode s pos).2) hit
        have hbw2 := Lib.below_iterAt hbw (k := w0.heap.size) (Nat.le_refl _) s (pos + (Utf8.decode s pos).2)
        have hse : stepL st ((Utf8.decode s pos).1 : Int) = if letterB (foldR ((Utf8.decode s pos).1 : Int)) = true then some (foldR ((Utf8.decode s pos).1 : Int)) else none := rfl
        obtain ⟨F, hF⟩ : ∃ F, foldR ((Utf8.decode s pos).1 : Int) = F := ⟨_, rfl⟩
        have cF : ∀ W, Calls Tryd.prog 40 #[.int .i32 ((Utf8.decode s pos).1 : Int)] W fun e w' => e = .returned (.int .i32 F) ∧ w' = W := fun W => by
          rw [← hF]; exact refFold_any _ W (by omega) (by omega)
        rw [hF] at hse
        generalize hL : letterB F = L at hse
        have HE : Hid (each stepL 46 s.data.toList = _) := hea
        clear hea
        cases L with
        | true =>
          rw [if_pos rfl] at hse
          have hlim := letter_lim F hL
          have hes := encode_size_le F
          have hal2 : acc.length ≤ 4000 := by omega
          go_wp2_with (first
            | (go_at_call 40; refine (cF _).mono ?_; rintro e w1 ⟨rfl, rfl⟩)
            | (go_at_call 39; refine (letter_any _ _).mono ?_; rw [hL]; rintro e w1 ⟨rfl, rfl⟩))
          refine ⟨⟨pos + (Utf8.decode s pos).2, F, acc ++ Lib.encodeRune F, ?_, hit2, hbw2, ?_, ?_, ?_⟩, ?_⟩
          · rw [enc_small F hlim.1 hlim.2]; exact congrArg Value.string (ByteArray.mk_append_mk _ _)
          · rw [enc_small F hlim.1 hlim.2] at hes
            have : (⟨(Lib.encodeRune F).toArray⟩ : ByteArray).size = (Lib.encodeRune F).length := by simp [ByteArray.size]
            rw [List.length_append]; omega
          · omega
          · have he2 := HE.out
            simp only [hse] at he2
            rw [he2]
            cases each stepL F (s.data.toList.drop (pos + (Utf8.decode s pos).2)) with
            | none => rfl
            | some p => simp
          · simp only [World.iterPos, hit2, hit]
            omega
        | false =>
          rw [if_neg (by simp)] at hse
          go_wp2_with (first
            | (go_at_call 40; refine (cF _).mono ?_; rintro e w1 ⟨rfl, rfl⟩)
            | (go_at_call 39; refine (letter_any _ _).mono ?_; rw [hL]; rintro e w1 ⟨rfl, rfl⟩))
          go_ret2
          have hR' : R = ([], 4) := by have he2 := HE.out; simp only [hse] at he2; rw [← hR, he2]; rfl
          rw [hR']
          exact ⟨rfl, hbw2⟩
      · have hnx : ∀ ty, (Instr.next (.pointer (some ⟨w0.heap.size, 0, none⟩)) true ty).run Tryd.prog wr = _ := fun ty => Lib.run_next_end_at wr w0.heap.size s pos ty hit hp
        rw [List.drop_of_length_le (by rw [hlen]; omega), each_nil] at hea
        simp only [List.append_nil] at hea
        have hR' : Hid (R = (acc, 0)) := by show R = (acc, 0); rw [← hR, hea]; rfl
        go_wp2
        go_ret2
        rw [hR'.out]
        exact ⟨rfl, hbw⟩
end Go.Proofs.YtiplalbicibahaaDoor.Nm
