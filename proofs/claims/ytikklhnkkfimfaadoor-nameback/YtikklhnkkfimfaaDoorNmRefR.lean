/- The document's Resource. -/
import Derived.Test.YtikklhnkkfimfaaDoorNmRefL
namespace Go.Proofs.YtikklhnkkfimfaaDoor
open Go.RowKit Go.Lib

theorem stepR_same (st r r' : Int) (h : stepR st r = some r') : r' = r := by
  unfold stepR at h; split at h
  · cases h; rfl
  · cases h

/-- What a valid text becomes rune for rune is the text. -/
theorem eachR_same : ∀ (n : Nat) (st : Int) (l bs : List UInt8) (st' : Int), l.length ≤ n → validD l = true → each stepR st l = some (bs, st') → bs = l
  | n, st, [], bs, st', _, _, h => by
    rw [each_nil] at h; cases h; rfl
  | 0, st, b :: t, bs, st', hn, _, _ => by simp at hn
  | n + 1, st, b :: t, bs, st', hn, hv, h => by
    rw [validD_step (b :: t) (by simp)] at hv
    by_cases hbad : (decodeL (b :: t)).1 = 65533 ∧ (decodeL (b :: t)).2 = 1
    · rw [if_pos hbad] at hv; cases hv
    rw [if_neg hbad] at hv
    rw [each_step stepR st _ (by simp)] at h
    have hw := decodeL_width (b :: t)
    have hl : ((b :: t).drop (decodeL (b :: t)).2).length ≤ n := by rw [List.length_drop]; omega
    cases hs : stepR st ((decodeL (b :: t)).1 : Int) with
    | none => simp only [hs] at h; cases h
    | some r =>
      simp only [hs] at h
      obtain rfl := stepR_same _ _ _ hs
      cases he : each stepR ((decodeL (b :: t)).1 : Int) ((b :: t).drop (decodeL (b :: t)).2) with
      | none => simp only [he] at h; cases h
      | some p =>
        obtain ⟨cs, s2⟩ := p
        simp only [he] at h
        cases h
        have ih := eachR_same n _ _ _ _ hl hv he
        rw [ih, encode_decode (b :: t) (by simp) hbad, List.take_append_drop]

set_option maxHeartbeats 4000000 in
set_option maxRecDepth 1000000 in
theorem refResource_any (s : ByteArray) (w : World) (hs : s.size ≤ 9223372036854775807) :
    Calls Tryd.prog 14 #[.string s] w fun e w' => e = .returned (.tuple #[.string ⟨(resN s.data.toList).1.toArray⟩, .int .i64 (resN s.data.toList).2]) ∧ Below w.heap.size w w' := by
  have hlen : s.data.toList.length = s.size := by simp
  rw [resN, prep_eachX]
  unfold eachX
  rw [hlen]
  by_cases h64 : 64 < s.size
  · rw [if_pos h64]
    have h64' : (64 : Int) < (s.size : Int) := by omega
    go_enter Tryd.func14, Tryd.ntmps14
    go_wp2
    go_ret2
    exact ⟨rfl, Below.refl _ _⟩
  rw [if_neg h64]
  have h64' : ¬ (64 : Int) < (s.size : Int) := by omega
  by_cases h0 : s.data.toList = []
  · rw [if_pos (.inl h0)]
    have hemp : s.toList.isEmpty = true := by rw [Lib.toList_data, h0]; rfl
    go_enter Tryd.func14, Tryd.ntmps14
    go_wp2
    go_ret2
    exact ⟨rfl, Below.refl _ _⟩
  have hemp : s.toList.isEmpty = false := by
    rw [Lib.toList_data]
    cases h : s.data.toList with
    | nil => exact absurd h h0
    | cons b t => rfl
  have cV := refValid_any s w (by omega)
  rw [vld_nums] at cV
  generalize hV : Lib.validD s.data.toList = V at cV ⊢
  cases V with
  | false =>
    rw [if_pos (.inr rfl)]
    go_enter Tryd.func14, Tryd.ntmps14
    go_wp2_with (go_at_call 25; refine cV.mono ?_; rintro e w0 ⟨rfl, rfl⟩)
    go_ret2
    exact ⟨rfl, Below.refl _ _⟩
  | true =>
    rw [if_neg (by simp [h0])]
    obtain ⟨R, hR⟩ : ∃ R, finX (fun _ => true) (ofEach (each stepR 46 s.data.toList)) = R := ⟨_, rfl⟩
    rw [hR]
    go_enter Tryd.func14, Tryd.ntmps14
    go_wp2_with (go_at_call 25; refine cV.mono ?_; rintro e w0 ⟨rfl, rfl⟩)
    go_loopw [] (fun wr => ∃ (pos : Nat) (st : Int) (acc : List UInt8), wr.heap[w0.heap.size]? = some (.stringIter s pos) ∧ Below w0.heap.size w0 wr ∧
      each stepR 46 s.data.toList = (match each stepR st (s.data.toList.drop pos) with | none => none | some (bs, st') => some (acc ++ bs, st'))) (fun wr => s.size - wr.iterPos w0.heap.size)
    case atStart =>
      refine ⟨0, 46, [], World.iter_heap w0 s 0, (Below.refl _ _).alloc (Nat.le_refl _) _, ?_⟩
      rw [List.drop_zero]
      cases each stepR 46 s.data.toList with
      | none => rfl
      | some p => rfl
    case round =>
      obtain ⟨pos, st, acc, hit, hbw, hea⟩ := hrel
      by_cases hp : pos < s.size
      · have hnx : ∀ ty, (Instr.next (.pointer (some ⟨w0.heap.size, 0, none⟩)) true ty).run Tryd.prog wr = _ := fun ty => Lib.run_next_any_at wr w0.heap.size s pos ty hit hp
        have hwd := dec_width s pos
        have hne : s.data.toList.drop pos ≠ [] := by
          intro h
          have := congrArg List.length h
          rw [List.length_drop, hlen] at this
          simp at this; omega
        rw [each_step stepR st _ hne, Lib.decodeL_drop, List.drop_drop] at hea
        have hit2 := Lib.iterAt_heap wr w0.heap.size s pos (pos + (Utf8.decode s pos).2) hit
        have hbw2 := Lib.below_iterAt hbw (k := w0.heap.size) (Nat.le_refl _) s (pos + (Utf8.decode s pos).2)
        obtain ⟨r, hr⟩ : ∃ r : Int, ((Utf8.decode s pos).1 : Int) = r := ⟨_, rfl⟩
        have hse : stepR st r = if resB r = true then some r else none := rfl
        rw [hr] at hea
        rw [hr] at hnx
        generalize hL : resB r = L at hse
        have HE : Hid (each stepR 46 s.data.toList = _) := hea
        clear hea hr
        cases L with
        | true =>
          rw [if_pos rfl] at hse
          unfold resB at hL
          simp only [decide_eq_true_eq] at hL
          have q1 : 32 ≤ r := by omega
          have q3 : (r == 65534) = false := by simp; omega
          have q4 : (r == 65535) = false := by simp; omega
          have fin : ∃ (pos_1 : Nat) (st : Int) (acc : List UInt8), (wr.iterAt w0.heap.size s (pos + (Utf8.decode s pos).2)).heap[w0.heap.size]? = some (.stringIter s pos_1) ∧ Below w0.heap.size w0 (wr.iterAt w0.heap.size s (pos + (Utf8.decode s pos).2)) ∧
              each stepR 46 s.data.toList = (match each stepR st (s.data.toList.drop pos_1) with | none => none | some (bs, st') => some (acc ++ bs, st')) := by
            refine ⟨pos + (Utf8.decode s pos).2, r, acc ++ Lib.encodeRune r, hit2, hbw2, ?_⟩
            have he2 := HE.out
            simp only [hse] at he2
            rw [he2]
            cases each stepR r (s.data.toList.drop (pos + (Utf8.decode s pos).2)) with
            | none => rfl
            | some p => simp
          have mea : s.size - (wr.iterAt w0.heap.size s (pos + (Utf8.decode s pos).2)).iterPos w0.heap.size < s.size - wr.iterPos w0.heap.size := by
            simp only [World.iterPos, hit2, hit]
            omega
          have FIN : Hid _ := fin
          have MEA : Hid _ := mea
          clear fin mea
          by_cases h127 : 127 ≤ r
          · have q2 : 159 < r := by omega
            clear hL
            go_wp2
            exact ⟨FIN.out, MEA.out⟩
          · have q2 : r < 127 := by omega
            clear hL
            go_wp2
            exact ⟨FIN.out, MEA.out⟩
        | false =>
          rw [if_neg (by simp)] at hse
          have hR' : Hid (R = ([], 4)) := by
            show R = ([], 4)
            have he2 := HE.out; simp only [hse] at he2; rw [← hR, he2]; rfl
          unfold resB at hL
          simp only [decide_eq_false_iff_not, Decidable.not_not] at hL
          rcases hL with q1 | ⟨q1, q2⟩ | q1 | q1
          · go_wp2
            go_ret2
            rw [hR'.out]
            exact ⟨rfl, hbw2⟩
          · have q3 : 32 ≤ r := by omega
            go_wp2
            go_ret2
            rw [hR'.out]
            exact ⟨rfl, hbw2⟩
          · subst q1
            go_wp2
            go_ret2
            rw [hR'.out]
            exact ⟨rfl, hbw2⟩
          · subst q1
            go_wp2
            go_ret2
            rw [hR'.out]
            exact ⟨rfl, hbw2⟩
      · have hnx : ∀ ty, (Instr.next (.pointer (some ⟨w0.heap.size, 0, none⟩)) true ty).run Tryd.prog wr = _ := fun ty => Lib.run_next_end_at wr w0.heap.size s pos ty hit hp
        rw [List.drop_of_length_le (by rw [hlen]; omega), each_nil] at hea
        simp only [List.append_nil] at hea
        have hsame := eachR_same _ _ _ _ _ (Nat.le_refl _) hV hea
        have hR' : Hid (R = (s.data.toList, 0)) := by show R = (s.data.toList, 0); rw [← hR, hea, hsame]; rfl
        clear hsame
        go_wp2
        go_ret2
        rw [hR'.out]
        exact ⟨rfl, hbw⟩
end Go.Proofs.YtikklhnkkfimfaaDoor
