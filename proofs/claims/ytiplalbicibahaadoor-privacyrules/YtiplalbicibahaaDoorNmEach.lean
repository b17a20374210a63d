/- eachRune: a text made anew out of what is told of its runes. -/
import Derived.Test.YtiplalbicibahaaDoorNmTake
import Derived.Test.YtiplalbicibahaaDoorNmBuild
namespace Go.Proofs.YtiplalbicibahaaDoor.Nm
open Go.RowKit

def ofEach : Option (List UInt8 × Int) → Except Nat (List UInt8 × Int)
  | none => .error 4
  | some p => .ok p
def eachX (step : Int → Int → Option Int) (l : List UInt8) : Except Nat (List UInt8 × Int) :=
  if 64 < l.length then .error 5
  else if l = [] ∨ Lib.validD l = false then .error 4
  else ofEach (each step 46 l)

/-- How eachRune ends. -/
def Ended (J : Int → World → Prop) : Except Nat (List UInt8 × Int) → Ending → World → Prop
  | .error n, e, _ => e = .panicked (gaveUp n)
  | .ok (bs, st), e, w => e = .returned (.string ⟨bs.toArray⟩) ∧ J st w

def finX (fin : Int → Bool) : Except Nat (List UInt8 × Int) → List UInt8 × Nat
  | .error n => ([], n)
  | .ok (bs, st) => if fin st = true then (bs, 0) else ([], 4)

theorem prep_eachX (step : Int → Int → Option Int) (fin : Int → Bool) (l : List UInt8) : prep step fin l = finX fin (eachX step l) := by
  unfold prep eachX
  split
  · rfl
  · split
    · rfl
    · cases each step 46 l <;> rfl

theorem bAt_aside {T e : TypeId} {B b B0 B1 : Nat} {p : Value} {bs : List Value} {w w' : World} (hB1 : B1 ≤ B) (h : Lib.BuilderAtF T e B b p bs w) (k : Aside B0 B1 w w') : Lib.BuilderAtF T e B b p bs w' := by
  obtain ⟨hB, v, hb, hown, hne⟩ := h
  refine ⟨hB, v, (k.above b (by omega)).trans hb, ⟨hown.1, ?_⟩, hne⟩
  rcases hown.2 with hn | ⟨g, cap, cur, fz, hv, hbg, hg, rest⟩
  · exact .inl hn
  · exact .inr ⟨g, cap, cur, fz, hv, hbg, (k.above g (by omega)).trans hg, rest⟩
theorem isB_aside {T e : TypeId} {B b B0 B1 : Nat} {bs : List Value} {w w' : World} (hB1 : B1 ≤ B) (h : Lib.IsBuilderF T e B b bs w) (k : Aside B0 B1 w w') : Lib.IsBuilderF T e B b bs w' :=
  h.elim (fun x => .inl (bAt_aside hB1 x k)) (fun x => .inr (bAt_aside hB1 x k))

theorem dec_width (s : ByteArray) (pos : Nat) : 1 ≤ (Utf8.decode s pos).2 := by rw [← Lib.decodeL_drop]; exact Lib.decodeL_width _
theorem dec_rune (s : ByteArray) (pos : Nat) : (Utf8.decode s pos).1 ≤ 1114111 := by rw [← Lib.decodeL_drop]; exact Lib.decodeL_rune _

set_option maxHeartbeats 4000000 in
set_option maxRecDepth 1000000 in
theorem each_any (k : Nat) (caps : Array Value) (step : Int → Int → Option Int) (B0 : Nat) (J : Int → World → Prop) (s : ByteArray) (w : World)
    (hs : s.size ≤ 9223372036854775807) (hB : B0 ≤ w.heap.size) (hK : Taker k caps step B0 w.heap.size J) (h46 : J 46 w) (hT : Lib.Utf8Tabs 0 1 w) :
    Calls Tryd.prog 69 #[.string s, .func (.func k) #[] caps] w fun e w' => Ended J (eachX step s.data.toList) e w' ∧ Below B0 w w' := by
  have hlen : s.data.toList.length = s.size := by simp
  unfold eachX
  rw [hlen]
  by_cases h64 : 64 < s.size
  · rw [if_pos h64]
    have h64' : (64 : Int) < (s.size : Int) := by omega
    go_enter Tryd.func69, Tryd.ntmps69
    go_wp2_with (go_at_call 73; refine (giveUp_any _ _).mono ?_; rintro e w1 ⟨rfl, rfl⟩)
    exact ⟨rfl, rfl, Below.refl _ _⟩
  rw [if_neg h64]
  have h64' : ¬ (64 : Int) < (s.size : Int) := by omega
  by_cases h0 : s.data.toList = []
  · rw [if_pos (.inl h0)]
    have hemp : s.toList.isEmpty = true := by rw [Lib.toList_data, h0]; rfl
    go_enter Tryd.func69, Tryd.ntmps69
    go_wp2_with (go_at_call 73; refine (giveUp_any _ _).mono ?_; rintro e w1 ⟨rfl, rfl⟩)
    exact ⟨rfl, rfl, Below.refl _ _⟩
  have hemp : s.toList.isEmpty = false := by
    rw [Lib.toList_data]
    cases h : s.data.toList with
    | nil => exact absurd h h0
    | cons b t => rfl
  have cV := validString_any s w hs hT
  generalize hV : Lib.validD s.data.toList = V at cV ⊢
  cases V with
  | false =>
    rw [if_pos (.inr rfl)]
    go_enter Tryd.func69, Tryd.ntmps69
    go_wp2_with (first
      | (go_at_call 43; refine cV.mono ?_; rintro e w0 ⟨rfl, hb0⟩)
      | (go_at_call 73; refine (giveUp_any _ _).mono ?_; rintro e w1 ⟨rfl, rfl⟩))
    exact ⟨rfl, rfl, hb0.mono hB⟩
  | true =>
    rw [if_neg (by simp [h0])]
    go_enter Tryd.func69, Tryd.ntmps69
    go_wp2_with (go_at_call 43; refine cV.mono ?_; rintro e w0 ⟨rfl, hb0⟩)
    have hz0 := hb0.size
    go_loopw [] (fun wr => ∃ (pos : Nat) (st : Int) (acc : List UInt8), Lib.IsBuilderF 114 5 w0.heap.size w0.heap.size (Lib.byteCells acc) wr ∧ wr.heap[w0.heap.size + 1]? = some (.stringIter s pos) ∧ Below B0 w wr ∧ J st wr ∧ acc.length ≤ 4 * pos ∧
      each step 46 s.data.toList = (match each step st (s.data.toList.drop pos) with | none => none | some (bs, st') => some (acc ++ bs, st'))) (fun wr => s.size - wr.iterPos (w0.heap.size + 1))
    case atStart =>
      refine ⟨0, 46, [], (Lib.IsBuilderF.of (Lib.fresh_isBuilder 114 5 w0)).alloc _, ?_, (((hb0.mono hB).alloc (by omega) _).alloc (by simp; omega) _), ?_, by simp, ?_⟩
      · have := World.iter_heap (w0.alloc (.cells #[.pointer none, .slice none 0 0] 114)) s 0
        simpa using this
      · exact hK.keep _ _ _ h46 ((hb0.alloc hz0 _).alloc (by simp; omega) _)
      · rw [List.drop_zero]
        cases each step 46 s.data.toList with
        | none => rfl
        | some p => rfl
    case round =>
      obtain ⟨pos, st, acc, hI, hit, hbw, hJ, hal, hea⟩ := hrel
      have hsz : w0.heap.size + 1 < wr.heap.size := (Array.getElem?_eq_some_iff.1 hit).1
      by_cases hp : pos < s.size
      · have hnx : ∀ ty, (Instr.next (.pointer (some ⟨w0.heap.size + 1, 0, none⟩)) true ty).run Tryd.prog wr = _ := fun ty => Lib.run_next_any_at wr (w0.heap.size + 1) s pos ty hit hp
        have hwd := dec_width s pos
        have hru := dec_rune s pos
        have hne : s.data.toList.drop pos ≠ [] := by
          intro h
          have := congrArg List.length h
          rw [List.length_drop, hlen] at this
          simp at this; omega
        rw [each_step step st _ hne, Lib.decodeL_drop, List.drop_drop] at hea
        have hI2 := hI.iterAt hit (pos + (Utf8.decode s pos).2)
        have hit2 := Lib.iterAt_heap wr (w0.heap.size + 1) s pos (pos + (Utf8.decode s pos).2) hit
        have hbw2 := Lib.below_iterAt hbw (k := w0.heap.size + 1) (by omega) s (pos + (Utf8.decode s pos).2)
        have hJ2 := hK.keep _ _ _ hJ (Lib.below_iterAt (Below.refl w.heap.size wr) (k := w0.heap.size + 1) (by omega) s (pos + (Utf8.decode s pos).2))
        have cC := hK.call st ((Utf8.decode s pos).1 : Int) _ hJ2 (by omega) (by omega)
        have eK := hK.ent
        go_wp2_with (go_at_fn k; refine cC.mono ?_)
        rintro e W1 (⟨hst, rfl, hb1⟩ | ⟨r', hst, rfl, hJ1, hA1⟩)
        · rw [hst] at hea
          exact ⟨rfl, by rw [hea]; rfl, hbw2.trans hb1⟩
        · rw [hst] at hea
          have hlim := hK.lim st _ r' (by omega) (by omega) hst
          have hI3 := isB_aside hz0 hI2 hA1
          have hit3 := (hA1.above (w0.heap.size + 1) (by omega)).trans hit2
          have hz3 := hA1.size
          rw [Lib.iterAt_size] at hz3
          go_wp2_with (go_at_call 76; refine (writeRune_any w0.heap.size w0.heap.size _ r' (by omega) (by omega) _ hI3 (by rw [Lib.byteCells_length]; omega) (by omega)).mono ?_)
          rintro e W2 ⟨⟨n, rfl⟩, hI4, hb4, hk4⟩
          go_wp2
          go_roundw
          case rel =>
            have hl4 := Lib.runeCells_le r'
            rw [Lib.runeCells_length] at hl4
            refine ⟨pos + (Utf8.decode s pos).2, r', acc ++ Lib.encodeRune r', ?_, hk4.iter hit3 (by omega), (hbw2.trans hA1.below).trans (hb4.mono (by omega)), hK.keep _ _ _ hJ1 (hb4.mono hz0), by simp; omega, ?_⟩
            · rw [Lib.byteCells_append, Lib.byteCells_encodeRune]; exact hI4
            · rw [hea]
              cases each step r' (s.data.toList.drop (pos + (Utf8.decode s pos).2)) with
              | none => rfl
              | some p => simp
          case measure =>
            simp only [World.iterPos, hk4.iter hit3 (by omega), hit]
            omega
      · have hnx : ∀ ty, (Instr.next (.pointer (some ⟨w0.heap.size + 1, 0, none⟩)) true ty).run Tryd.prog wr = _ := fun ty => Lib.run_next_end_at wr (w0.heap.size + 1) s pos ty hit hp
        rw [List.drop_of_length_le (by rw [hlen]; omega), each_nil] at hea
        simp only [List.append_nil] at hea
        go_wp2_with (go_at_call 77; refine (bString_any w0.heap.size w0.heap.size acc _ hI (by omega)).mono ?_)
        rintro e W1 ⟨rfl, hb1⟩
        go_wp2
        go_ret
        rw [hea]
        exact ⟨⟨rfl, hK.keep _ _ _ hJ (hb1.mono hz0)⟩, hbw.trans (hb1.mono (by omega))⟩
end Go.Proofs.YtiplalbicibahaaDoor.Nm
