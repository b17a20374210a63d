/- Texts of one seat, one behind the other: NmBuild, NmEach, NmPrep, NmBegun, NmFun, RoE. -/
import Derived.Test.YtppdopcghnfapaaGreatDoorM2
import Derived.WalkKit
import Derived.WalkLawsBesides
import Derived.WalkSpells
import Derived.BigCall
import Derived.Defers
import Derived.Recover
import Derived.Laws.Pointers
/- strings.Builder at this program: WriteRune, String; utf8.ValidString: the library's contracts laid, and copyCheck as this translation has it. -/
set_option maxRecDepth 100000
namespace Go.Proofs.YtppdopcghnfapaaGreatDoor.Nm
open Go.RowKit Go.Shelf

theorem extra242 : Builder.Extra Tryz.prog Tryz.lays242_ren := {
  sizeBuilder := by kernel_rfl
  liesBuilder := by kernel_rfl
  t5 := Tryz.underlying5
  a5 := Tryz.isAgg5
  z5 := Tryz.sizeOf5
  v5 := Tryz.zeroValue5
  infoByte := by kernel_rfl
  cellsByte := by kernel_rfl
  sizeByte := by kernel_rfl
  neB5 := by decide }
theorem extra169 : Builder.Extra Tryz.prog Tryz.lays169_ren := {
  sizeBuilder := by kernel_rfl
  liesBuilder := by kernel_rfl
  t5 := Tryz.underlying5
  a5 := Tryz.isAgg5
  z5 := Tryz.sizeOf5
  v5 := Tryz.zeroValue5
  infoByte := by kernel_rfl
  cellsByte := by kernel_rfl
  sizeByte := by kernel_rfl
  neB5 := by decide }

theorem bString_any (B b : Nat) (l : List UInt8) (w : World) (h : Lib.IsBuilderF 197 5 B b (Lib.byteCells l) w) (hBw : B ≤ w.heap.size) :
    Calls Tryz.prog 172 #[.pointer (some ⟨b, 0, none⟩)] w fun e w' => e = .returned (.string ⟨l.toArray⟩) ∧ Below B w w' :=
  (Any.Builder_String_any_k Tryz.lays169 extra169 B b l w h hBw).mono fun _ _ h => ⟨h.1, h.2.2.1⟩

theorem validString_any (s : ByteArray) (w : World) (hs : s.size ≤ 9223372036854775807) (hT : Lib.Utf8Tabs 2 3 w) :
    Calls Tryz.prog 114 #[.string s] w fun e w' => e = .returned (.bool (Lib.validD s.data.toList)) ∧ Below w.heap.size w w' := Any.utf8_ValidString Tryz.lays196 s w hs hT

theorem appendRune_any (B : Nat) (v : Value) (n : Nat) (xs : List Value) (r : Int) (hr0 : -2147483648 ≤ r) (hr1 : r ≤ 2147483647) (w : World) (hown : w.ownsRowF B 5 1 v n xs) (hlen : n + 4 ≤ 140737488355328) (hBw : B ≤ w.heap.size) :
    Calls Tryz.prog 184 #[v, .int .i32 r] w fun e w' => ∃ v', e = .returned v' ∧ w'.ownsRowF B 5 1 v' (n + (Lib.runeCells r).length) (xs ++ Lib.runeCells r) ∧ ∃ o, (w.alloc o).grownBy w' v.ownBlock :=
  Any.utf8_AppendRune_own Tryz.lays242 extra242 B v n xs r hr0 hr1 w hown hlen hBw

/-- copyCheck of a builder that no one has written to: its own address is laid in it. -/
theorem copyCheck_new (b : Nat) (w : World) (h0 : w.cell? ⟨b, 0, none⟩ = some (.pointer none)) (hsh : w.shape? b = some (197, 2)) (hfz : w.frozen? ⟨b, 0, none⟩ = false) :
    Calls Tryz.prog 183 #[.pointer (some ⟨b, 0, none⟩)] w fun e w' => e = .returned (.tuple #[]) ∧ w' = w.setCell ⟨b, 0, none⟩ (.pointer (some ⟨b, 0, none⟩)) := by
  obtain ⟨j, hj, hjs⟩ := Option.map_eq_some_iff.1 extra242.sizeBuilder
  go_enter Tryz.func183, Tryz.ntmps183
  go_wp2
  rw [Lib.run_to_unsafe w ⟨b, 0, none⟩ Tryz.underlying195 Tryz.underlying210 hj (by rw [hjs]; decide) hsh (Nat.zero_lt_succ 1)]
  simp only [Result.andThen]
  rw [Oper.upon_value]
  go_wp2
  rw [run_callFunc_extern Tryz.func186 (by kernel_rfl) (by kernel_rfl) (by kernel_rfl) (e := Extern.AbiNoEscape.same) (by kernel_rfl), Lib.run_noEscape]
  simp only [Result.andThen]
  rw [Oper.upon_value]
  go_wp2
  rw [Lib.run_from_unsafe w ⟨b, 0, none⟩ Tryz.underlying210 Tryz.underlying195 hj hsh extra242.liesBuilder]
  simp only [Result.andThen]
  rw [Oper.upon_value]
  go_wp2
  go_end0
  exact ⟨rfl, rfl⟩
theorem copyCheck_old (b : Nat) (w : World) (h0 : w.cell? ⟨b, 0, none⟩ = some (.pointer (some ⟨b, 0, none⟩))) :
    Calls Tryz.prog 183 #[.pointer (some ⟨b, 0, none⟩)] w fun e w' => e = .returned (.tuple #[]) ∧ w' = w := by
  obtain ⟨j, hj, _⟩ := Option.map_eq_some_iff.1 extra242.sizeBuilder
  go_enter Tryz.func183, Tryz.ntmps183
  go_wp2
  rw [Lib.run_neq_ptr_same w _ Tryz.underlying195 hj]
  go_wp2
  go_end0
  exact ⟨rfl, rfl⟩
theorem copyCheck_any (B b : Nat) (bs : List Value) (w : World) (h : Lib.IsBuilderF 197 5 B b bs w) :
    Calls Tryz.prog 183 #[.pointer (some ⟨b, 0, none⟩)] w fun e w' => e = .returned (.tuple #[]) ∧ Lib.BuilderAtF 197 5 B b (.pointer (some ⟨b, 0, none⟩)) bs w' ∧ Below B w w' ∧ Lib.OthersKept 5 (some b) w w' := by
  rcases h with h | h
  · exact (copyCheck_new b w h.cell0 h.shape h.frozen0).mono fun e w' ⟨h1, h2⟩ => by
      subst h2
      exact ⟨h1, h.used _, (Below.refl B w).setCell (p := ⟨b, 0, none⟩) h.1 _, (Lib.OthersKept.refl _ _ w).setCell ⟨b, 0, none⟩ rfl _⟩
  · exact (copyCheck_old b w h.cell0).mono fun e w' ⟨h1, h2⟩ => by
      subst h2
      exact ⟨h1, h, Below.refl B _, Lib.OthersKept.refl _ _ _⟩

set_option maxHeartbeats 4000000 in
set_option maxRecDepth 100000 in
theorem writeRune_any (B b : Nat) (bs : List Value) (r : Int) (hr0 : -2147483648 ≤ r) (hr1 : r ≤ 2147483647) (w : World) (h : Lib.IsBuilderF 197 5 B b bs w) (hlen : bs.length + 4 ≤ 140737488355328) (hBw : B ≤ w.heap.size) :
    Calls Tryz.prog 171 #[.pointer (some ⟨b, 0, none⟩), .int .i32 r] w fun e w' => (∃ n : Int, e = .returned (.tuple #[.int .i64 n, .nilIface])) ∧ Lib.IsBuilderF 197 5 B b (bs ++ Lib.runeCells r) w' ∧ Below B w w' ∧ Lib.OthersKept 5 (some b) w w' := by
  have hk4 := Lib.runeCells_le r
  go_enter Tryz.func171, Tryz.ntmps171
  go_wp2_with (go_at_call 183; refine (copyCheck_any B b bs _ h).mono ?_)
  rintro e w1 ⟨rfl, ⟨hB, v, hbk, hown, hne⟩, hb1, hk1⟩
  have hz1 := hb1.size
  obtain ⟨ao, cap, rfl⟩ : ∃ ao cap, v = .slice ao bs.length cap := by
    rcases hown.2 with ⟨hv, h0⟩ | ⟨g, cap, cur, fz, hv, _⟩
    · exact ⟨none, 0, by rw [hv, h0]⟩
    · exact ⟨_, _, hv⟩
  have c1 : w1.cell? ⟨b, 1, none⟩ = some (.slice ao bs.length cap) := by rw [Lib.cell_of_heap hbk]; rfl
  go_wp2_with (go_at_call 184; refine (appendRune_any B _ bs.length bs r hr0 hr1 _ hown hlen (by omega)).mono ?_)
  rintro e w2 ⟨v', rfl, hown', o, hgrow⟩
  have hlt : b < w1.heap.size := (Array.getElem?_eq_some_iff.1 hbk).1
  have hb2 : w2.heap[b]? = some (.cells #[.pointer (some ⟨b, 0, none⟩), .slice ao bs.length cap] 197 (0, 0)) := by
    rw [hgrow.block b (by simp; omega) (fun e => hne e.symm), Lib.alloc_old w1 _ b hlt]
    exact hbk
  have d1 : w2.cell? ⟨b, 1, none⟩ = some (.slice ao bs.length cap) := by rw [Lib.cell_of_heap hb2]; rfl
  have f1 : w2.frozen? ⟨b, 1, none⟩ = false := Lib.frozen_of_heap hb2 1
  obtain ⟨g, cap', rfl⟩ : ∃ g cap', v' = .slice (some ⟨g, 0, none⟩) (bs.length + (Lib.runeCells r).length) cap' := by
    rcases hown'.2 with ⟨_, h0⟩ | ⟨g, cap', cur, fz, hv, _⟩
    · omega
    · exact ⟨g, cap', hv⟩
  go_wp2
  go_ret2
  refine ⟨⟨_, rfl⟩, Or.inr ?_, ?_, ((hk1.alloc _).grown hgrow (Lib.ownsRowF_kind (hown.alloc _))).setCell ⟨b, 1, none⟩ rfl _⟩
  · exact Lib.BuilderAtF.put (T := 197) (e := 5) hB hb2 (bs' := bs ++ Lib.runeCells r) (by simpa using hown') (by decide)
  · exact ((hb1.alloc (by omega) _).grown hgrow (by simp; omega) (fun k hk => (hown.lt k hk).1)).setCell (p := ⟨b, 1, none⟩) hB _
end Go.Proofs.YtppdopcghnfapaaGreatDoor.Nm

/- eachRune: a text made anew out of what is told of its runes. -/
set_option maxRecDepth 100000
namespace Go.Proofs.YtppdopcghnfapaaGreatDoor.Nm
open Go.RowKit

def ofEach : Option (List UInt8 × Int) → Except Nat (List UInt8 × Int)
  | none => .error 4
  | some p => .ok p
def eachX (step : Int → Int → Option Int) (l : List UInt8) : Except Nat (List UInt8 × Int) :=
  if 64 < l.length then .error 5
  else if l = [] ∨ Lib.validD l = false then .error 4
  else ofEach (each step 46 l)

/-- How eachRune ends. -/
def Ended (J : Int → World → Prop) : Except Nat (List UInt8 × Int) → Ending → World → Prop
  | .error n, e, _ => e = .panicked (gaveUp n)
  | .ok (bs, st), e, w => e = .returned (.string ⟨bs.toArray⟩) ∧ J st w

def finX (fin : Int → Bool) : Except Nat (List UInt8 × Int) → List UInt8 × Nat
  | .error n => ([], n)
  | .ok (bs, st) => if fin st = true then (bs, 0) else ([], 4)

theorem prep_eachX (step : Int → Int → Option Int) (fin : Int → Bool) (l : List UInt8) : prep step fin l = finX fin (eachX step l) := by
  unfold prep eachX
  split
  · rfl
  · split
    · rfl
    · cases each step 46 l <;> rfl

theorem bAt_aside {T e : TypeId} {B b B0 B1 : Nat} {p : Value} {bs : List Value} {w w' : World} (hB1 : B1 ≤ B) (h : Lib.BuilderAtF T e B b p bs w) (k : Aside B0 B1 w w') : Lib.BuilderAtF T e B b p bs w' := by
  obtain ⟨hB, v, hb, hown, hne⟩ := h
  refine ⟨hB, v, (k.above b (by omega)).trans hb, ⟨hown.1, ?_⟩, hne⟩
  rcases hown.2 with hn | ⟨g, cap, cur, fz, hv, hbg, hg, rest⟩
  · exact .inl hn
  · exact .inr ⟨g, cap, cur, fz, hv, hbg, (k.above g (by omega)).trans hg, rest⟩
theorem isB_aside {T e : TypeId} {B b B0 B1 : Nat} {bs : List Value} {w w' : World} (hB1 : B1 ≤ B) (h : Lib.IsBuilderF T e B b bs w) (k : Aside B0 B1 w w') : Lib.IsBuilderF T e B b bs w' :=
  h.elim (fun x => .inl (bAt_aside hB1 x k)) (fun x => .inr (bAt_aside hB1 x k))

theorem dec_width (s : ByteArray) (pos : Nat) : 1 ≤ (Utf8.decode s pos).2 := by rw [← Lib.decodeL_drop]; exact Lib.decodeL_width _
theorem dec_rune (s : ByteArray) (pos : Nat) : (Utf8.decode s pos).1 ≤ 1114111 := by rw [← Lib.decodeL_drop]; exact Lib.decodeL_rune _

set_option maxHeartbeats 4000000 in
set_option maxRecDepth 1000000 in
theorem each_any (k : Nat) (caps : Array Value) (step : Int → Int → Option Int) (B0 : Nat) (J : Int → World → Prop) (s : ByteArray) (w : World)
    (hs : s.size ≤ 9223372036854775807) (hB : B0 ≤ w.heap.size) (hK : Taker k caps step B0 w.heap.size J) (h46 : J 46 w) (hT : Lib.Utf8Tabs 2 3 w) :
    Calls Tryz.prog 142 #[.string s, .func (.func k) #[] caps] w fun e w' => Ended J (eachX step s.data.toList) e w' ∧ Below B0 w w' := by
  have hlen : s.data.toList.length = s.size := by simp
  unfold eachX
  rw [hlen]
  by_cases h64 : 64 < s.size
  · rw [if_pos h64]
    have h64' : (64 : Int) < (s.size : Int) := by omega
    go_enter Tryz.func142, Tryz.ntmps142
    go_wp2_with (go_at_call 146; refine (giveUp_any _ _).mono ?_; rintro e w1 ⟨rfl, rfl⟩)
    exact ⟨rfl, rfl, Below.refl _ _⟩
  rw [if_neg h64]
  have h64' : ¬ (64 : Int) < (s.size : Int) := by omega
  by_cases h0 : s.data.toList = []
  · rw [if_pos (.inl h0)]
    have hemp : s.toList.isEmpty = true := by rw [Lib.toList_data, h0]; rfl
    go_enter Tryz.func142, Tryz.ntmps142
    go_wp2_with (go_at_call 146; refine (giveUp_any _ _).mono ?_; rintro e w1 ⟨rfl, rfl⟩)
    exact ⟨rfl, rfl, Below.refl _ _⟩
  have hemp : s.toList.isEmpty = false := by
    rw [Lib.toList_data]
    cases h : s.data.toList with
    | nil => exact absurd h h0
    | cons b t => rfl
  have cV := validString_any s w hs hT
  generalize hV : Lib.validD s.data.toList = V at cV ⊢
  cases V with
  | false =>
    rw [if_pos (.inr rfl)]
    go_enter Tryz.func142, Tryz.ntmps142
    go_wp2_with (first
      | (go_at_call 114; refine cV.mono ?_; rintro e w0 ⟨rfl, hb0⟩)
      | (go_at_call 146; refine (giveUp_any _ _).mono ?_; rintro e w1 ⟨rfl, rfl⟩))
    exact ⟨rfl, rfl, hb0.mono hB⟩
  | true =>
    rw [if_neg (by simp [h0])]
    go_enter Tryz.func142, Tryz.ntmps142
    go_wp2_with (go_at_call 114; refine cV.mono ?_; rintro e w0 ⟨rfl, hb0⟩)
    have hz0 := hb0.size
    go_loopw [] (fun wr => ∃ (pos : Nat) (st : Int) (acc : List UInt8), Lib.IsBuilderF 197 5 w0.heap.size w0.heap.size (Lib.byteCells acc) wr ∧ wr.heap[w0.heap.size + 1]? = some (.stringIter s pos) ∧ Below B0 w wr ∧ J st wr ∧ acc.length ≤ 4 * pos ∧
      each step 46 s.data.toList = (match each step st (s.data.toList.drop pos) with | none => none | some (bs, st') => some (acc ++ bs, st'))) (fun wr => s.size - wr.iterPos (w0.heap.size + 1))
    case atStart =>
      refine ⟨0, 46, [], (Lib.IsBuilderF.of (Lib.fresh_isBuilder 197 5 w0)).alloc _, ?_, (((hb0.mono hB).alloc (by omega) _).alloc (by simp; omega) _), ?_, by simp, ?_⟩
      · have := World.iter_heap (w0.alloc (.cells #[.pointer none, .slice none 0 0] 197)) s 0
        simpa using this
      · exact hK.keep _ _ _ h46 ((hb0.alloc hz0 _).alloc (by simp; omega) _)
      · rw [List.drop_zero]
        cases each step 46 s.data.toList with
        | none => rfl
        | some p => rfl
    case round =>
      obtain ⟨pos, st, acc, hI, hit, hbw, hJ, hal, hea⟩ := hrel
      have hsz : w0.heap.size + 1 < wr.heap.size := (Array.getElem?_eq_some_iff.1 hit).1
      by_cases hp : pos < s.size
      · have hnx : ∀ ty, (Instr.next (.pointer (some ⟨w0.heap.size + 1, 0, none⟩)) true ty).run Tryz.prog wr = _ := fun ty => Lib.run_next_any_at wr (w0.heap.size + 1) s pos ty hit hp
        have hwd := dec_width s pos
        have hru := dec_rune s pos
        have hne : s.data.toList.drop pos ≠ [] := by
          intro h
          have := congrArg List.length h
          rw [List.length_drop, hlen] at this
          simp at this; omega
        rw [each_step step st _ hne, Lib.decodeL_drop, List.drop_drop] at hea
        have hI2 := hI.iterAt hit (pos + (Utf8.decode s pos).2)
        have hit2 := Lib.iterAt_heap wr (w0.heap.size + 1) s pos (pos + (Utf8.decode s pos).2) hit
        have hbw2 := Lib.below_iterAt hbw (k := w0.heap.size + 1) (by omega) s (pos + (Utf8.decode s pos).2)
        have hJ2 := hK.keep _ _ _ hJ (Lib.below_iterAt (Below.refl w.heap.size wr) (k := w0.heap.size + 1) (by omega) s (pos + (Utf8.decode s pos).2))
        have cC := hK.call st ((Utf8.decode s pos).1 : Int) _ hJ2 (by omega) (by omega)
        have eK := hK.ent
        go_wp2_with (go_at_fn k; refine cC.mono ?_)
        rintro e W1 (⟨hst, rfl, hb1⟩ | ⟨r', hst, rfl, hJ1, hA1⟩)
        · rw [hst] at hea
          exact ⟨rfl, by rw [hea]; rfl, hbw2.trans hb1⟩
        · rw [hst] at hea
          have hlim := hK.lim st _ r' (by omega) (by omega) hst
          have hI3 := isB_aside hz0 hI2 hA1
          have hit3 := (hA1.above (w0.heap.size + 1) (by omega)).trans hit2
          have hz3 := hA1.size
          rw [Lib.iterAt_size] at hz3
          go_wp2_with (go_at_call 171; refine (writeRune_any w0.heap.size w0.heap.size _ r' (by omega) (by omega) _ hI3 (by rw [Lib.byteCells_length]; omega) (by omega)).mono ?_)
          rintro e W2 ⟨⟨n, rfl⟩, hI4, hb4, hk4⟩
          go_wp2
          go_roundw
          case rel =>
            have hl4 := Lib.runeCells_le r'
            rw [Lib.runeCells_length] at hl4
            refine ⟨pos + (Utf8.decode s pos).2, r', acc ++ Lib.encodeRune r', ?_, hk4.iter hit3 (by omega), (hbw2.trans hA1.below).trans (hb4.mono (by omega)), hK.keep _ _ _ hJ1 (hb4.mono hz0), by simp; omega, ?_⟩
            · rw [Lib.byteCells_append, Lib.byteCells_encodeRune]; exact hI4
            · rw [hea]
              cases each step r' (s.data.toList.drop (pos + (Utf8.decode s pos).2)) with
              | none => rfl
              | some p => simp
          case measure =>
            simp only [World.iterPos, hk4.iter hit3 (by omega), hit]
            omega
      · have hnx : ∀ ty, (Instr.next (.pointer (some ⟨w0.heap.size + 1, 0, none⟩)) true ty).run Tryz.prog wr = _ := fun ty => Lib.run_next_end_at wr (w0.heap.size + 1) s pos ty hit hp
        rw [List.drop_of_length_le (by rw [hlen]; omega), each_nil] at hea
        simp only [List.append_nil] at hea
        go_wp2_with (go_at_call 172; refine (bString_any w0.heap.size w0.heap.size acc _ hI (by omega)).mono ?_)
        rintro e W1 ⟨rfl, hb1⟩
        go_wp2
        go_ret
        rw [hea]
        exact ⟨⟨rfl, hK.keep _ _ _ hJ (hb1.mono hz0)⟩, hbw.trans (hb1.mono (by omega))⟩
end Go.Proofs.YtppdopcghnfapaaGreatDoor.Nm

/- local, host, resource: what each makes of a text, or how it gives up. -/
set_option maxRecDepth 100000
namespace Go.Proofs.YtppdopcghnfapaaGreatDoor.Nm
open Go.RowKit

/-- A text that was prepared, or the error's number with which it was given up. -/
def Gave (p : List UInt8 × Nat) (e : Ending) : Prop := (p.2 = 0 ∧ e = .returned (.string ⟨p.1.toArray⟩)) ∨ (p.2 ≠ 0 ∧ e = .panicked (gaveUp p.2))

theorem tabs_below {w w' : World} (hT : Lib.Utf8Tabs 2 3 w) (hb : Below w.heap.size w w') : Lib.Utf8Tabs 2 3 w' :=
  ⟨fun c hc => (Below.cell hb (World.block_lt_of_cell? w _ (hT.1 c hc))).trans (hT.1 c hc),
   fun i hi => ⟨(Below.cell hb (World.block_lt_of_cell? w _ (hT.2 i hi).1)).trans (hT.2 i hi).1, (Below.cell hb (World.block_lt_of_cell? w _ (hT.2 i hi).2)).trans (hT.2 i hi).2⟩⟩

theorem eachX_num (step : Int → Int → Option Int) (l : List UInt8) (n : Nat) (h : eachX step l = .error n) : n ≠ 0 := by
  unfold eachX at h
  split at h
  · cases h; omega
  · split at h
    · cases h; omega
    · cases he : each step 46 l with
      | none => rw [he] at h; cases h; omega
      | some p => rw [he] at h; cases h

theorem inLocal_any (s : ByteArray) (w : World) (hs : s.size ≤ 9223372036854775807) (hT : Lib.Utf8Tabs 2 3 w) :
    Calls Tryz.prog 119 #[.string s] w fun e w' => Gave (localN s.data.toList) e ∧ Below w.heap.size w w' := by
  have cE := each_any 143 #[] stepL w.heap.size (fun _ _ => True) s w hs (Nat.le_refl _) (takerL _) trivial hT
  rw [localN, prep_eachX]
  generalize hX : eachX stepL s.data.toList = X at cE ⊢
  cases X with
  | error n =>
    have hn := eachX_num _ _ _ hX
    go_enter Tryz.func119, Tryz.ntmps119
    go_wp2_with (go_at_call 142; refine cE.mono ?_; rintro e w1 ⟨rfl, hb⟩)
    exact ⟨rfl, .inr ⟨hn, rfl⟩, hb⟩
  | ok p =>
    obtain ⟨bs, st⟩ := p
    go_enter Tryz.func119, Tryz.ntmps119
    go_wp2_with (go_at_call 142; refine cE.mono ?_; rintro e w1 ⟨⟨rfl, _⟩, hb⟩)
    go_ret
    exact ⟨.inl ⟨rfl, rfl⟩, hb⟩

theorem lastAt_new (w : World) : LastAt w.heap.size 46 (w.alloc (.cells #[.int .i32 46] 21)) := by
  show (w.heap.push (.cells #[.int .i32 46] 21))[w.heap.size]? = _
  simp

end Go.Proofs.YtppdopcghnfapaaGreatDoor.Nm

/- begun: a preparing, and the error with which it gave up. -/
set_option maxRecDepth 100000
namespace Go.Proofs.YtppdopcghnfapaaGreatDoor.Nm
open Go.RowKit

theorem catchS_panicking (p : Addr) (x n : Int) (older : List PanicEntry) (w : World) (hc : w.cell? p = some (.int .i64 x)) (hz : w.frozen? p = false) :
    CallsD Tryz.prog 141 #[.pointer (some p)] (.panicking ({ v := .iface 175 (.agg #[.int .i64 n]), recovered := false } :: older)) w fun e u' w' =>
      e = .returned (.tuple #[]) ∧ u' = .panicking ({ v := .iface 175 (.agg #[.int .i64 n]), recovered := true } :: older) ∧ w' = w.setCell p (.int .i64 n) := by
  refine callsD_of_wpS Tryz.func141 rfl fun c₀ cs hu => ?_
  apply wpS_seq
  apply wpS_region
  simp [wpOpsS, go_sem, recoverD, hu, Tryz.ntmps141, Exit.thenS]
  refine wpS_of_wp ?_
  rw [show #[Value.pointer (some p)] ++ ((Array.replicate 7 undef).setIfInBounds 1 (Value.iface 175 (Value.agg #[Value.int IntKind.i64 n]))).setIfInBounds 0 (Value.iface 175 (Value.agg #[Value.int IntKind.i64 n])) = #[Value.pointer (some p), Value.iface 175 (Value.agg #[Value.int IntKind.i64 n]), Value.iface 175 (Value.agg #[Value.int IntKind.i64 n]), undef, undef, undef, undef, undef] from rfl]
  have hta : (Instr.typeAssert (Value.iface 175 (Value.agg #[Value.int IntKind.i64 n])) 20 175 false).run Tryz.prog w = .ok (Value.agg #[Value.int IntKind.i64 n]) w := by
    simp [Instr.typeAssert, go_sem]
  have hfd : (Instr.field 175 (Value.agg #[Value.int IntKind.i64 n]) 0).run Tryz.prog w = .ok (Value.int IntKind.i64 n) w := by
    simp [Instr.field, go_sem, asAgg]
  go_wp2
  simp [bodyPostS, results, Tryz.results141]
theorem catchS_idle (p : Addr) (w : World) :
    CallsD Tryz.prog 141 #[.pointer (some p)] .returning w fun e u' w' => e = .returned (.tuple #[]) ∧ u' = .returning ∧ w' = w := by
  refine callsD_of_wpS Tryz.func141 rfl fun c₀ cs hu => ?_
  apply wpS_seq
  apply wpS_region
  simp [wpOpsS, go_sem, recoverD, hu, Tryz.ntmps141, Exit.thenS]
  refine wpS_of_wp ?_
  rw [show #[Value.pointer (some p)] ++ ((Array.replicate 7 undef).setIfInBounds 1 Value.nilIface).setIfInBounds 0 Value.nilIface = #[Value.pointer (some p), Value.nilIface, Value.nilIface, undef, undef, undef, undef, undef] from rfl]
  go_wp2
  cases c₀
  simp_all [bodyPostS, results, Tryz.results141]

/-- What begun hands back of a text. -/
def Told (p : List UInt8 × Nat) : Value := .tuple #[.string ⟨p.1.toArray⟩, .int .i64 p.2]

theorem cell_one {w : World} {B : Nat} {v : Value} {t : TypeId} (h : w.heap[B]? = some (.cells #[v] t (0, 0))) : w.cell? ⟨B, 0, none⟩ = some v := by simp [World.cell?, h]
theorem thaw_one {w : World} {B : Nat} {v : Value} {t : TypeId} (h : w.heap[B]? = some (.cells #[v] t (0, 0))) : w.frozen? ⟨B, 0, none⟩ = false := by simp [World.frozen?, h]

theorem begunS_any (k : Nat) (caps : Array Value) (p : List UInt8 × Nat) (w : World) (hent : ∀ args w, (callFunc k args).run Tryz.prog w = .ok (.enter k args) w) (hp : p.2 = 0 ∨ p.1 = [])
    (hc : Calls Tryz.prog k caps (w.alloc (.cells #[.int .i64 0] 24)) fun e w' => Gave p e ∧ Below (w.heap.size + 1) (w.alloc (.cells #[.int .i64 0] 24)) w') :
    Calls Tryz.prog 117 #[.func (.func k) #[] caps] w fun e w' => e = .returned (Told p) ∧ Below w.heap.size w w' := by
  have hmf : ∀ (fn : Fn) (first cap : Array Value) (w : World), (Instr.makeFunc fn first cap).run Tryz.prog w = .ok (.func fn first cap) w := fun _ _ _ _ => rfl
  have hb0 : Below w.heap.size w (w.alloc (.cells #[.int .i64 0] 24)) := (Below.refl _ _).alloc (Nat.le_refl _) _
  have hcell : ∀ w', Below (w.heap.size + 1) (w.alloc (.cells #[.int .i64 0] 24)) w' → w'.heap[w.heap.size]? = some (.cells #[.int .i64 0] 24 (0, 0)) := fun w' hb => by
    rw [hb.block w.heap.size (by omega)]
    show (w.heap.push (.cells #[.int .i64 0] 24))[w.heap.size]? = _
    simp
  obtain ⟨l, n⟩ := p
  by_cases h0 : n = 0
  · subst h0
    have hc' := hc.mono (fun e w' h => And.intro (h.1.elim (fun k => k.2) (fun k => absurd rfl k.1)) h.2 : ∀ e w', _ → (e = .returned (.string ⟨l.toArray⟩) ∧ _))
    clear hc
    go_enter_defers Tryz.func117, Tryz.ntmps117
    go_wp2_with (go_at_fn k; refine hc'.mono ?_; rintro e w1 ⟨rfl, hb⟩; have hcl := cell_one (hcell w1 hb); have hfz := thaw_one (hcell w1 hb))
    refine leaves_cons (f := 141) (args := #[.pointer (some ⟨w.heap.size, 0, none⟩)]) (by simp) (by simp [go_sem]) ?_
    refine (catchS_idle ⟨w.heap.size, 0, none⟩ _).mono ?_
    rintro e u' w2 ⟨rfl, rfl, rfl⟩
    have hbl : Below w.heap.size w (w1.setCell ⟨w.heap.size, 0, none⟩ (.int .i64 0)) := (hb0.trans (hb.mono (by omega))).setCell (p := ⟨w.heap.size, 0, none⟩) (Nat.le_refl _) _
    simp [Leaves, settle, results, Tryz.results117, go_sem, hcl, Told]
    exact hbl
  · have hl : l = [] := hp.elim (fun h => absurd h h0) id
    subst hl
    have hc' := hc.mono (fun e w' h => And.intro (h.1.elim (fun k => absurd k.1 h0) (fun k => k.2)) h.2 : ∀ e w', _ → (e = .panicked (gaveUp n) ∧ _))
    clear hc
    go_enter_defers Tryz.func117, Tryz.ntmps117
    go_wp2_with (go_at_fn k; refine hc'.mono ?_; rintro e w1 ⟨rfl, hb⟩; have hcl := cell_one (hcell w1 hb); have hfz := thaw_one (hcell w1 hb))
    refine leaves_cons (f := 141) (args := #[.pointer (some ⟨w.heap.size, 0, none⟩)]) (by simp) (by simp [go_sem]) ?_
    refine (catchS_panicking ⟨w.heap.size, 0, none⟩ 0 n [] _ hcl hfz).mono ?_
    rintro e u' w2 ⟨rfl, rfl, rfl⟩
    have hbl : Below w.heap.size w (w1.setCell ⟨w.heap.size, 0, none⟩ (.int .i64 n)) := (hb0.trans (hb.mono (by omega))).setCell (p := ⟨w.heap.size, 0, none⟩) (Nat.le_refl _) _
    simp [Leaves, settle, results, Tryz.results117, go_sem, hcl, Told]
    exact hbl
end Go.Proofs.YtppdopcghnfapaaGreatDoor.Nm

/- Local, Host, Resource: a text prepared, and the error's number. -/
set_option maxRecDepth 100000
namespace Go.Proofs.YtppdopcghnfapaaGreatDoor.Nm
open Go.RowKit

theorem cell_new (w : World) (v : Value) (t : TypeId) : (w.alloc (.cells #[v] t)).cell? ⟨w.heap.size, 0, none⟩ = some v := by
  have h : (w.alloc (.cells #[v] t)).heap[w.heap.size]? = some (.cells #[v] t (0, 0)) := by
    show (w.heap.push (.cells #[v] t))[w.heap.size]? = _
    simp
  exact cell_one h
theorem cell_newer (w : World) (v : Value) (t : TypeId) (o : Obj) : ((w.alloc (.cells #[v] t)).alloc o).cell? ⟨w.heap.size, 0, none⟩ = some v := by
  rw [World.cell?_alloc_lt _ _ _ (by simp)]; exact cell_new w v t
theorem below_new (w : World) (o : Obj) : Below w.heap.size w (w.alloc o) := (Below.refl _ _).alloc (Nat.le_refl _) _

theorem cloLocal_any (q : Addr) (s : ByteArray) (w : World) (hc : w.cell? q = some (.string s)) (hs : s.size ≤ 9223372036854775807) (hT : Lib.Utf8Tabs 2 3 w) :
    Calls Tryz.prog 118 #[.pointer (some q)] w fun e w' => Gave (localN s.data.toList) e ∧ Below w.heap.size w w' := by
  have cI := inLocal_any s w hs hT
  generalize localN s.data.toList = p at cI ⊢
  obtain ⟨l, n⟩ := p
  by_cases h0 : n = 0
  · subst h0
    have cI' := cI.mono (fun e w' h => And.intro (h.1.elim (fun k => k.2) (fun k => absurd rfl k.1)) h.2 : ∀ e w', _ → (e = .returned (.string ⟨l.toArray⟩) ∧ _))
    clear cI
    go_enter Tryz.func118, Tryz.ntmps118
    go_wp2_with (go_at_call 119; refine cI'.mono ?_; rintro e w1 ⟨rfl, hb⟩)
    go_ret
    exact ⟨.inl ⟨rfl, rfl⟩, hb⟩
  · have cI' := cI.mono (fun e w' h => And.intro (h.1.elim (fun k => absurd k.1 h0) (fun k => k.2)) h.2 : ∀ e w', _ → (e = .panicked (gaveUp n) ∧ _))
    clear cI
    go_enter Tryz.func118, Tryz.ntmps118
    go_wp2_with (go_at_call 119; refine cI'.mono ?_; rintro e w1 ⟨rfl, hb⟩)
    exact ⟨rfl, .inr ⟨h0, rfl⟩, hb⟩

theorem local_any (s : ByteArray) (w : World) (hs : s.size ≤ 9223372036854775807) (hT : Lib.Utf8Tabs 2 3 w) :
    Calls Tryz.prog 95 #[.string s] w fun e w' => e = .returned (Told (localN s.data.toList)) ∧ Below w.heap.size w w' := by
  have hmf : ∀ (fn : Fn) (first cap : Array Value) (w : World), (Instr.makeFunc fn first cap).run Tryz.prog w = .ok (.func fn first cap) w := fun _ _ _ _ => rfl
  have hb1 : Below w.heap.size w ((w.alloc (.cells #[.string s] 9)).alloc (.cells #[.int .i64 0] 24)) := (below_new w _).alloc (by simp) _
  have cB := begunS_any 118 #[.pointer (some ⟨w.heap.size, 0, none⟩)] (localN s.data.toList) (w.alloc (.cells #[.string s] 9)) (enters_of Tryz.func118 (by kernel_rfl) rfl) ((prep_cases _ _ _).elim .inl (fun h => .inr h.1))
    ((cloLocal_any ⟨w.heap.size, 0, none⟩ s _ (cell_newer w _ _ _) hs (tabs_below hT hb1)).mono (fun e w' h => ⟨h.1, by have := h.2; simpa using this⟩))
  generalize localN s.data.toList = p at cB ⊢
  unfold Told at cB ⊢
  go_enter Tryz.func95, Tryz.ntmps95
  go_wp2_with (go_at_call 117; refine cB.mono ?_; rintro e w1 ⟨rfl, hb⟩)
  go_ret2
  exact ⟨rfl, (below_new w _).trans (hb.mono (by simp))⟩

end Go.Proofs.YtppdopcghnfapaaGreatDoor.Nm

/- roster: attempt, whatever it answers; local. -/
set_option maxRecDepth 100000
namespace Go.Proofs.YtppdopcghnfapaaGreatDoor
open Go.RowKit Go.Joins

/-- It answered, or it gave up with the error's number. -/
def GaveV (n : Nat) (v : Value) (e : Ending) : Prop := (n = 0 ∧ e = .returned v) ∨ (n ≠ 0 ∧ e = .panicked (gaveR n))
theorem gv_ok {v : Value} {e : Ending} (h : e = .returned v) : GaveV 0 v e := Or.inl ⟨rfl, h⟩
theorem gv_no {n : Nat} (hn : n ≠ 0) {v : Value} {e : Ending} (h : e = .panicked (gaveR n)) : GaveV n v e := Or.inr ⟨hn, h⟩
def acc (m n : Int) (c : Bool) : Array Value := #[.int .i64 m, .int .u64 n, .bool c]
def hec (t : Int) (d c : Bool) : Array Value := #[.int .i64 t, .bool d, .bool c]
theorem acc_one (m n : Int) (c : Bool) : (acc m n c).all (·.oneCell') = true := by simp [acc, Value.oneCell']
theorem hec_one (t : Int) (d c : Bool) : (hec t d c).all (·.oneCell') = true := by simp [hec, Value.oneCell']
theorem res2 {fn : Func} {p t : Tmp} {ty : TypeId} (h : fn.results = #[.cell p ty, .cell t 24]) (tmps : Array Value) (w : World) (g g2 : Nat) (V : Value) (n : Int) (hp : tmps.getD p undef = .pointer (some ⟨g, 0, none⟩)) (ht : tmps.getD t undef = .pointer (some ⟨g2, 0, none⟩))
    (hr : (loadVar ty ⟨g, 0, none⟩).run Tryz.prog w = .ok V w) (h2 : w.cell? ⟨g2, 0, none⟩ = some (.int .i64 n)) : (results fn tmps).run Tryz.prog w = .ok (.tuple #[V, .int .i64 n]) w := by
  have hr2 : (loadVar 24 ⟨g2, 0, none⟩).run Tryz.prog w = .ok (.int .i64 n) w := by simp [go_sem, h2]
  have hp' : tmps[p]?.getD undef = .pointer (some ⟨g, 0, none⟩) := by simpa using hp
  have ht' : tmps[t]?.getD undef = .pointer (some ⟨g2, 0, none⟩) := by simpa using ht
  simp [results, h, hp', ht', asAddr, hr, hr2]
theorem res1 {fn : Func} {p t : Tmp} (h : fn.results = #[.tmp p, .cell t 24]) (tmps : Array Value) (w : World) (g2 : Nat) (V : Value) (n : Int) (hp : tmps.getD p undef = V) (ht : tmps.getD t undef = .pointer (some ⟨g2, 0, none⟩))
    (h2 : w.cell? ⟨g2, 0, none⟩ = some (.int .i64 n)) : (results fn tmps).run Tryz.prog w = .ok (.tuple #[V, .int .i64 n]) w := by
  have hr2 : (loadVar 24 ⟨g2, 0, none⟩).run Tryz.prog w = .ok (.int .i64 n) w := by simp [go_sem, h2]
  have hp' : tmps[p]?.getD undef = V := by simpa using hp
  have ht' : tmps[t]?.getD undef = .pointer (some ⟨g2, 0, none⟩) := by simpa using ht
  simp [results, h, hp', ht', asAddr, hr2]
theorem infoActed : (Tryz.prog.info? 99).map (·.size) = some 3 := by kernel_rfl
theorem infoHeard : (Tryz.prog.info? 60).map (·.size) = some 3 := by kernel_rfl

theorem catchA_panicking (p : Addr) (x : Int) (n : Nat) (w : World) (hc : w.cell? p = some (.int .i64 x)) (hz : w.frozen? p = false) :
    CallsD Tryz.prog 96 #[.pointer (some p)] (.panicking (gaveR n)) w fun e u' w' =>
      e = .returned (.tuple #[]) ∧ u' = .panicking [{ v := .iface 113 (.agg #[.int .i64 n]), recovered := true }] ∧ w' = w.setCell p (.int .i64 n) := by
  unfold gaveR
  refine callsD_of_wpS Tryz.func96 rfl fun c₀ cs hu => ?_
  apply wpS_seq
  apply wpS_region
  simp [wpOpsS, go_sem, recoverD, hu, Tryz.ntmps96, Exit.thenS]
  refine wpS_of_wp ?_
  rw [show #[Value.pointer (some p)] ++ ((Array.replicate 7 undef).setIfInBounds 1 (Value.iface 113 (Value.agg #[Value.int IntKind.i64 n]))).setIfInBounds 0 (Value.iface 113 (Value.agg #[Value.int IntKind.i64 n])) = #[Value.pointer (some p), Value.iface 113 (Value.agg #[Value.int IntKind.i64 n]), Value.iface 113 (Value.agg #[Value.int IntKind.i64 n]), undef, undef, undef, undef, undef] from rfl]
  have hta : (Instr.typeAssert (Value.iface 113 (Value.agg #[Value.int IntKind.i64 n])) 20 113 false).run Tryz.prog w = .ok (Value.agg #[Value.int IntKind.i64 n]) w := by
    simp [Instr.typeAssert, go_sem]
  have hfd : (Instr.field 113 (Value.agg #[Value.int IntKind.i64 n]) 0).run Tryz.prog w = .ok (Value.int IntKind.i64 n) w := by
    simp [Instr.field, go_sem, asAgg]
  go_wp2
  simp [bodyPostS, results, Tryz.results96]
theorem catchA_idle (p : Addr) (w : World) :
    CallsD Tryz.prog 96 #[.pointer (some p)] .returning w fun e u' w' => e = .returned (.tuple #[]) ∧ u' = .returning ∧ w' = w := by
  refine callsD_of_wpS Tryz.func96 rfl fun c₀ cs hu => ?_
  apply wpS_seq
  apply wpS_region
  simp [wpOpsS, go_sem, recoverD, hu, Tryz.ntmps96, Exit.thenS]
  refine wpS_of_wp ?_
  rw [show #[Value.pointer (some p)] ++ ((Array.replicate 7 undef).setIfInBounds 1 Value.nilIface).setIfInBounds 0 Value.nilIface = #[Value.pointer (some p), Value.nilIface, Value.nilIface, undef, undef, undef, undef, undef] from rfl]
  go_wp2
  cases c₀
  simp_all [bodyPostS, results, Tryz.results96]

set_option maxHeartbeats 1600000 in
theorem attemptA (k : Nat) (caps : Array Value) (n : Nat) (m x : Int) (c : Bool) (S : Nat → Prop) (Post : World → Prop) (w : World) (hent : ∀ args w, (callFunc k args).run Tryz.prog w = .ok (.enter k args) w) (hS : ∀ i, w.heap.size ≤ i → ¬ S i)
    (hc : Calls Tryz.prog k caps ((w.alloc (.cells (acc 0 0 false) 99)).alloc (.cells #[.int .i64 0] 24)) fun e w' => GaveV n (.agg (acc m x c)) e ∧ Post w' ∧ Keep S ((w.alloc (.cells (acc 0 0 false) 99)).alloc (.cells #[.int .i64 0] 24)) w') :
    Calls Tryz.prog 56 #[.func (.func k) #[] caps] w fun e w' => e = .returned (.tuple #[.agg (if n = 0 then acc m x c else acc 0 0 false), .int .i64 n]) ∧ ∃ w1, Post w1 ∧ Keep S w w1 ∧ Keep (fun i => i = w.heap.size ∨ i = w.heap.size + 1) w1 w' := by
  have hmf : ∀ (fn : Fn) (first cap : Array Value) (w : World), (Instr.makeFunc fn first cap).run Tryz.prog w = .ok (.func fn first cap) w := fun _ _ _ _ => rfl
  have hz0 : ((w.alloc (.cells (acc 0 0 false) 99)).alloc (.cells #[.int .i64 0] 24)).heap[w.heap.size]? = some (.cells (acc 0 0 false) 99 (0, 0)) := push_old (push_at _ _ rfl)
  have hz1 : ((w.alloc (.cells (acc 0 0 false) 99)).alloc (.cells #[.int .i64 0] 24)).heap[w.heap.size + 1]? = some (.cells #[.int .i64 0] 24 (0, 0)) := push_at _ _ (by simp)
  have hbW : Below w.heap.size w ((w.alloc (.cells (acc 0 0 false) 99)).alloc (.cells #[.int .i64 0] 24)) := below2 _ _ _
  obtain ⟨b, Hb⟩ : ∃ b, Hid (w.heap.size = b) := ⟨_, rfl⟩
  have hkS : ∀ w', Keep S ((w.alloc (.cells (acc 0 0 false) 99)).alloc (.cells #[.int .i64 0] 24)) w' → Keep S w w' := fun w' k => (Keep.ofBelow hbW).trans k
  have hk0 : ∀ w', Keep S ((w.alloc (.cells (acc 0 0 false) 99)).alloc (.cells #[.int .i64 0] 24)) w' → w'.heap[w.heap.size]? = some (.cells (acc 0 0 false) 99 (0, 0)) := fun w' k => box_keep hz0 k (hS _ (Nat.le_refl _))
  have hk1 : ∀ w', Keep S ((w.alloc (.cells (acc 0 0 false) 99)).alloc (.cells #[.int .i64 0] 24)) w' → w'.heap[w.heap.size + 1]? = some (.cells #[.int .i64 0] 24 (0, 0)) := fun w' k => box_keep hz1 k (hS _ (by omega))
  clear hz0 hz1 hbW
  by_cases h0 : n = 0
  · subst h0
    rw [if_pos rfl]
    have hc' := hc.mono (fun e w' h => And.intro (h.1.elim (fun k => k.2) (fun k => absurd rfl k.1)) h.2 : ∀ e w', _ → (e = .returned (.agg (acc m x c)) ∧ _))
    clear hc
    go_enter_defers Tryz.func56, Tryz.ntmps56
    go_wp2_with (first
      | (go_at_fn k; refine hc'.mono ?_; rintro e w1 ⟨rfl, hP, hB⟩; have z0 := hk0 w1 hB; have z1 := hk1 w1 hB; have hKS := hkS w1 hB; have s1 := box_keep z1 (rowK w1 w.heap.size (acc m x c)) (by omega); have hcl := cell_one s1; have hfz := thaw_one s1)
      | (refine wpList_store_row rfl 99 (.tmp 2) (.tmp 6) rfl w.heap.size (acc m x c) rfl rfl 99 _ z0 (by rw [infoActed]; rfl) (by rfl) (acc_one m x c) ?_))
    refine leaves_cons (f := 96) (args := #[.pointer (some ⟨w.heap.size + 1, 0, none⟩)]) (by simp) (by simp [go_sem]) ?_
    refine (catchA_idle ⟨w.heap.size + 1, 0, none⟩ _).mono ?_
    rintro e u' w2 ⟨rfl, rfl, hw2⟩
    have y0 : w2.heap[w.heap.size]? = some (.cells (acc m x c) 99 (0, 0)) := by rw [hw2]; exact box_keep (setRow_heap w1 w.heap.size _ _ 99 (0, 0) z0) (setK _ (w.heap.size + 1) 0 _) (by omega)
    have y1 : w2.cell? ⟨w.heap.size + 1, 0, none⟩ = some (.int .i64 0) := by rw [hw2]; exact cell_one (block_setCell (i := 0) s1 (.int .i64 0))
    have hk2 : Keep (fun i => i = w.heap.size ∨ i = w.heap.size + 1) w1 w2 := by rw [hw2]; exact ((rowK w1 w.heap.size (acc m x c)).mono (fun i e => Or.inl e)).trans ((setK _ (w.heap.size + 1) 0 _).mono (fun i e => Or.inr e))
    clear hw2 hcl hfz s1 z0 z1
    have hld := run_loadVar_row w2 w.heap.size 99 99 _ (0, 0) _ y0 Tryz.underlying99 rfl (by rw [infoActed]; rfl)
    simp only [Leaves, settle]
    exact ⟨_, res2 (by rfl) _ w2 _ _ _ _ (by rfl) (by rfl) hld y1, rfl, w1, hP, hKS, hk2⟩
  · rw [if_neg h0]
    have hc' := hc.mono (fun e w' h => And.intro (h.1.elim (fun k => absurd k.1 h0) (fun k => k.2)) h.2 : ∀ e w', _ → (e = .panicked (gaveR n) ∧ _))
    clear hc
    go_enter_defers Tryz.func56, Tryz.ntmps56
    go_wp2_with (first
      | (go_at_fn k; refine hc'.mono ?_; rintro e w1 ⟨rfl, hP, hB⟩; have z0 := hk0 w1 hB; have z1 := hk1 w1 hB; have hKS := hkS w1 hB; have hcl := cell_one z1; have hfz := thaw_one z1))
    refine leaves_cons (f := 96) (args := #[.pointer (some ⟨w.heap.size + 1, 0, none⟩)]) (by simp) (by simp [go_sem]) ?_
    refine (catchA_panicking ⟨w.heap.size + 1, 0, none⟩ 0 n _ hcl hfz).mono ?_
    rintro e u' w2 ⟨rfl, rfl, hw2⟩
    have y0 : w2.heap[w.heap.size]? = some (.cells (acc 0 0 false) 99 (0, 0)) := by rw [hw2]; exact box_keep z0 (setK _ (w.heap.size + 1) 0 _) (by omega)
    have y1 : w2.cell? ⟨w.heap.size + 1, 0, none⟩ = some (.int .i64 n) := by rw [hw2]; exact cell_one (block_setCell (i := 0) z1 (.int .i64 n))
    have hk2 : Keep (fun i => i = w.heap.size ∨ i = w.heap.size + 1) w1 w2 := by rw [hw2]; exact (setK _ (w.heap.size + 1) 0 _).mono (fun i e => Or.inr e)
    clear hw2 hcl hfz z0 z1
    have hld := run_loadVar_row w2 w.heap.size 99 99 _ (0, 0) _ y0 Tryz.underlying99 rfl (by rw [infoActed]; rfl)
    simp only [settle]
    exact ⟨_, res2 (by rfl) _ w2 _ _ _ _ (by rfl) (by rfl) hld y1, rfl, w1, hP, hKS, hk2⟩

theorem catchH_panicking (p : Addr) (x : Int) (n : Nat) (w : World) (hc : w.cell? p = some (.int .i64 x)) (hz : w.frozen? p = false) :
    CallsD Tryz.prog 99 #[.pointer (some p)] (.panicking (gaveR n)) w fun e u' w' =>
      e = .returned (.tuple #[]) ∧ u' = .panicking [{ v := .iface 113 (.agg #[.int .i64 n]), recovered := true }] ∧ w' = w.setCell p (.int .i64 n) := by
  unfold gaveR
  refine callsD_of_wpS Tryz.func99 rfl fun c₀ cs hu => ?_
  apply wpS_seq
  apply wpS_region
  simp [wpOpsS, go_sem, recoverD, hu, Tryz.ntmps99, Exit.thenS]
  refine wpS_of_wp ?_
  rw [show #[Value.pointer (some p)] ++ ((Array.replicate 7 undef).setIfInBounds 1 (Value.iface 113 (Value.agg #[Value.int IntKind.i64 n]))).setIfInBounds 0 (Value.iface 113 (Value.agg #[Value.int IntKind.i64 n])) = #[Value.pointer (some p), Value.iface 113 (Value.agg #[Value.int IntKind.i64 n]), Value.iface 113 (Value.agg #[Value.int IntKind.i64 n]), undef, undef, undef, undef, undef] from rfl]
  have hta : (Instr.typeAssert (Value.iface 113 (Value.agg #[Value.int IntKind.i64 n])) 20 113 false).run Tryz.prog w = .ok (Value.agg #[Value.int IntKind.i64 n]) w := by
    simp [Instr.typeAssert, go_sem]
  have hfd : (Instr.field 113 (Value.agg #[Value.int IntKind.i64 n]) 0).run Tryz.prog w = .ok (Value.int IntKind.i64 n) w := by
    simp [Instr.field, go_sem, asAgg]
  go_wp2
  simp [bodyPostS, results, Tryz.results99]
theorem catchH_idle (p : Addr) (w : World) :
    CallsD Tryz.prog 99 #[.pointer (some p)] .returning w fun e u' w' => e = .returned (.tuple #[]) ∧ u' = .returning ∧ w' = w := by
  refine callsD_of_wpS Tryz.func99 rfl fun c₀ cs hu => ?_
  apply wpS_seq
  apply wpS_region
  simp [wpOpsS, go_sem, recoverD, hu, Tryz.ntmps99, Exit.thenS]
  refine wpS_of_wp ?_
  rw [show #[Value.pointer (some p)] ++ ((Array.replicate 7 undef).setIfInBounds 1 Value.nilIface).setIfInBounds 0 Value.nilIface = #[Value.pointer (some p), Value.nilIface, Value.nilIface, undef, undef, undef, undef, undef] from rfl]
  go_wp2
  cases c₀
  simp_all [bodyPostS, results, Tryz.results99]

set_option maxHeartbeats 1600000 in
theorem attemptH (k : Nat) (caps : Array Value) (n : Nat) (tl : Int) (dn c : Bool) (S : Nat → Prop) (Post : World → Prop) (w : World) (hent : ∀ args w, (callFunc k args).run Tryz.prog w = .ok (.enter k args) w) (hS : ∀ i, w.heap.size ≤ i → ¬ S i)
    (hc : Calls Tryz.prog k caps ((w.alloc (.cells (hec 0 false false) 60)).alloc (.cells #[.int .i64 0] 24)) fun e w' => GaveV n (.agg (hec tl dn c)) e ∧ Post w' ∧ Keep S ((w.alloc (.cells (hec 0 false false) 60)).alloc (.cells #[.int .i64 0] 24)) w') :
    Calls Tryz.prog 59 #[.func (.func k) #[] caps] w fun e w' => e = .returned (.tuple #[.agg (if n = 0 then hec tl dn c else hec 0 false false), .int .i64 n]) ∧ ∃ w1, Post w1 ∧ Keep S w w1 ∧ Keep (fun i => i = w.heap.size ∨ i = w.heap.size + 1) w1 w' := by
  have hmf : ∀ (fn : Fn) (first cap : Array Value) (w : World), (Instr.makeFunc fn first cap).run Tryz.prog w = .ok (.func fn first cap) w := fun _ _ _ _ => rfl
  have hz0 : ((w.alloc (.cells (hec 0 false false) 60)).alloc (.cells #[.int .i64 0] 24)).heap[w.heap.size]? = some (.cells (hec 0 false false) 60 (0, 0)) := push_old (push_at _ _ rfl)
  have hz1 : ((w.alloc (.cells (hec 0 false false) 60)).alloc (.cells #[.int .i64 0] 24)).heap[w.heap.size + 1]? = some (.cells #[.int .i64 0] 24 (0, 0)) := push_at _ _ (by simp)
  have hbW : Below w.heap.size w ((w.alloc (.cells (hec 0 false false) 60)).alloc (.cells #[.int .i64 0] 24)) := below2 _ _ _
  obtain ⟨b, Hb⟩ : ∃ b, Hid (w.heap.size = b) := ⟨_, rfl⟩
  have hkS : ∀ w', Keep S ((w.alloc (.cells (hec 0 false false) 60)).alloc (.cells #[.int .i64 0] 24)) w' → Keep S w w' := fun w' k => (Keep.ofBelow hbW).trans k
  have hk0 : ∀ w', Keep S ((w.alloc (.cells (hec 0 false false) 60)).alloc (.cells #[.int .i64 0] 24)) w' → w'.heap[w.heap.size]? = some (.cells (hec 0 false false) 60 (0, 0)) := fun w' k => box_keep hz0 k (hS _ (Nat.le_refl _))
  have hk1 : ∀ w', Keep S ((w.alloc (.cells (hec 0 false false) 60)).alloc (.cells #[.int .i64 0] 24)) w' → w'.heap[w.heap.size + 1]? = some (.cells #[.int .i64 0] 24 (0, 0)) := fun w' k => box_keep hz1 k (hS _ (by omega))
  clear hz0 hz1 hbW
  by_cases h0 : n = 0
  · subst h0
    rw [if_pos rfl]
    have hc' := hc.mono (fun e w' h => And.intro (h.1.elim (fun k => k.2) (fun k => absurd rfl k.1)) h.2 : ∀ e w', _ → (e = .returned (.agg (hec tl dn c)) ∧ _))
    clear hc
    go_enter_defers Tryz.func59, Tryz.ntmps59
    go_wp2_with (first
      | (go_at_fn k; refine hc'.mono ?_; rintro e w1 ⟨rfl, hP, hB⟩; have z0 := hk0 w1 hB; have z1 := hk1 w1 hB; have hKS := hkS w1 hB; have s1 := box_keep z1 (rowK w1 w.heap.size (hec tl dn c)) (by omega); have hcl := cell_one s1; have hfz := thaw_one s1)
      | (refine wpList_store_row rfl 60 (.tmp 2) (.tmp 6) rfl w.heap.size (hec tl dn c) rfl rfl 60 _ z0 (by rw [infoHeard]; rfl) (by rfl) (hec_one tl dn c) ?_))
    refine leaves_cons (f := 99) (args := #[.pointer (some ⟨w.heap.size + 1, 0, none⟩)]) (by simp) (by simp [go_sem]) ?_
    refine (catchH_idle ⟨w.heap.size + 1, 0, none⟩ _).mono ?_
    rintro e u' w2 ⟨rfl, rfl, hw2⟩
    have y0 : w2.heap[w.heap.size]? = some (.cells (hec tl dn c) 60 (0, 0)) := by rw [hw2]; exact box_keep (setRow_heap w1 w.heap.size _ _ 60 (0, 0) z0) (setK _ (w.heap.size + 1) 0 _) (by omega)
    have y1 : w2.cell? ⟨w.heap.size + 1, 0, none⟩ = some (.int .i64 0) := by rw [hw2]; exact cell_one (block_setCell (i := 0) s1 (.int .i64 0))
    have hk2 : Keep (fun i => i = w.heap.size ∨ i = w.heap.size + 1) w1 w2 := by rw [hw2]; exact ((rowK w1 w.heap.size (hec tl dn c)).mono (fun i e => Or.inl e)).trans ((setK _ (w.heap.size + 1) 0 _).mono (fun i e => Or.inr e))
    clear hw2 hcl hfz s1 z0 z1
    have hld := run_loadVar_row w2 w.heap.size 60 60 _ (0, 0) _ y0 Tryz.underlying60 rfl (by rw [infoHeard]; rfl)
    simp only [Leaves, settle]
    exact ⟨_, res2 (by rfl) _ w2 _ _ _ _ (by rfl) (by rfl) hld y1, rfl, w1, hP, hKS, hk2⟩
  · rw [if_neg h0]
    have hc' := hc.mono (fun e w' h => And.intro (h.1.elim (fun k => absurd k.1 h0) (fun k => k.2)) h.2 : ∀ e w', _ → (e = .panicked (gaveR n) ∧ _))
    clear hc
    go_enter_defers Tryz.func59, Tryz.ntmps59
    go_wp2_with (first
      | (go_at_fn k; refine hc'.mono ?_; rintro e w1 ⟨rfl, hP, hB⟩; have z0 := hk0 w1 hB; have z1 := hk1 w1 hB; have hKS := hkS w1 hB; have hcl := cell_one z1; have hfz := thaw_one z1))
    refine leaves_cons (f := 99) (args := #[.pointer (some ⟨w.heap.size + 1, 0, none⟩)]) (by simp) (by simp [go_sem]) ?_
    refine (catchH_panicking ⟨w.heap.size + 1, 0, none⟩ 0 n _ hcl hfz).mono ?_
    rintro e u' w2 ⟨rfl, rfl, hw2⟩
    have y0 : w2.heap[w.heap.size]? = some (.cells (hec 0 false false) 60 (0, 0)) := by rw [hw2]; exact box_keep z0 (setK _ (w.heap.size + 1) 0 _) (by omega)
    have y1 : w2.cell? ⟨w.heap.size + 1, 0, none⟩ = some (.int .i64 n) := by rw [hw2]; exact cell_one (block_setCell (i := 0) z1 (.int .i64 n))
    have hk2 : Keep (fun i => i = w.heap.size ∨ i = w.heap.size + 1) w1 w2 := by rw [hw2]; exact (setK _ (w.heap.size + 1) 0 _).mono (fun i e => Or.inr e)
    clear hw2 hcl hfz z0 z1
    have hld := run_loadVar_row w2 w.heap.size 60 60 _ (0, 0) _ y0 Tryz.underlying60 rfl (by rw [infoHeard]; rfl)
    simp only [settle]
    exact ⟨_, res2 (by rfl) _ w2 _ _ _ _ (by rfl) (by rfl) hld y1, rfl, w1, hP, hKS, hk2⟩

theorem catchE_panicking (p : Addr) (x : Int) (n : Nat) (w : World) (hc : w.cell? p = some (.int .i64 x)) (hz : w.frozen? p = false) :
    CallsD Tryz.prog 88 #[.pointer (some p)] (.panicking (gaveR n)) w fun e u' w' =>
      e = .returned (.tuple #[]) ∧ u' = .panicking [{ v := .iface 113 (.agg #[.int .i64 n]), recovered := true }] ∧ w' = w.setCell p (.int .i64 n) := by
  unfold gaveR
  refine callsD_of_wpS Tryz.func88 rfl fun c₀ cs hu => ?_
  apply wpS_seq
  apply wpS_region
  simp [wpOpsS, go_sem, recoverD, hu, Tryz.ntmps88, Exit.thenS]
  refine wpS_of_wp ?_
  rw [show #[Value.pointer (some p)] ++ ((Array.replicate 7 undef).setIfInBounds 1 (Value.iface 113 (Value.agg #[Value.int IntKind.i64 n]))).setIfInBounds 0 (Value.iface 113 (Value.agg #[Value.int IntKind.i64 n])) = #[Value.pointer (some p), Value.iface 113 (Value.agg #[Value.int IntKind.i64 n]), Value.iface 113 (Value.agg #[Value.int IntKind.i64 n]), undef, undef, undef, undef, undef] from rfl]
  have hta : (Instr.typeAssert (Value.iface 113 (Value.agg #[Value.int IntKind.i64 n])) 20 113 false).run Tryz.prog w = .ok (Value.agg #[Value.int IntKind.i64 n]) w := by
    simp [Instr.typeAssert, go_sem]
  have hfd : (Instr.field 113 (Value.agg #[Value.int IntKind.i64 n]) 0).run Tryz.prog w = .ok (Value.int IntKind.i64 n) w := by
    simp [Instr.field, go_sem, asAgg]
  go_wp2
  simp [bodyPostS, results, Tryz.results88]
theorem catchE_idle (p : Addr) (w : World) :
    CallsD Tryz.prog 88 #[.pointer (some p)] .returning w fun e u' w' => e = .returned (.tuple #[]) ∧ u' = .returning ∧ w' = w := by
  refine callsD_of_wpS Tryz.func88 rfl fun c₀ cs hu => ?_
  apply wpS_seq
  apply wpS_region
  simp [wpOpsS, go_sem, recoverD, hu, Tryz.ntmps88, Exit.thenS]
  refine wpS_of_wp ?_
  rw [show #[Value.pointer (some p)] ++ ((Array.replicate 7 undef).setIfInBounds 1 Value.nilIface).setIfInBounds 0 Value.nilIface = #[Value.pointer (some p), Value.nilIface, Value.nilIface, undef, undef, undef, undef, undef] from rfl]
  go_wp2
  cases c₀
  simp_all [bodyPostS, results, Tryz.results88]

set_option maxHeartbeats 1600000 in
theorem attemptE (k : Nat) (caps : Array Value) (n : Nat) (x : En) (S : Nat → Prop) (Post : World → Prop) (w : World) (hent : ∀ args w, (callFunc k args).run Tryz.prog w = .ok (.enter k args) w) (hS : ∀ i, w.heap.size ≤ i → ¬ S i)
    (hc : Calls Tryz.prog k caps ((w.alloc (.cells (enc (en0 ⟨#[]⟩)) 51)).alloc (.cells #[.int .i64 0] 24)) fun e w' => GaveV n (.agg (enc x)) e ∧ Post w' ∧ Keep S ((w.alloc (.cells (enc (en0 ⟨#[]⟩)) 51)).alloc (.cells #[.int .i64 0] 24)) w') :
    Calls Tryz.prog 50 #[.func (.func k) #[] caps] w fun e w' => e = .returned (.tuple #[.agg (if n = 0 then enc x else enc (en0 ⟨#[]⟩)), .int .i64 n]) ∧ ∃ w1, Post w1 ∧ Keep S w w1 ∧ Keep (fun i => i = w.heap.size ∨ i = w.heap.size + 1) w1 w' := by
  have hmf : ∀ (fn : Fn) (first cap : Array Value) (w : World), (Instr.makeFunc fn first cap).run Tryz.prog w = .ok (.func fn first cap) w := fun _ _ _ _ => rfl
  have hz0 : ((w.alloc (.cells (enc (en0 ⟨#[]⟩)) 51)).alloc (.cells #[.int .i64 0] 24)).heap[w.heap.size]? = some (.cells (enc (en0 ⟨#[]⟩)) 51 (0, 0)) := push_old (push_at _ _ rfl)
  have hz1 : ((w.alloc (.cells (enc (en0 ⟨#[]⟩)) 51)).alloc (.cells #[.int .i64 0] 24)).heap[w.heap.size + 1]? = some (.cells #[.int .i64 0] 24 (0, 0)) := push_at _ _ (by simp)
  have hbW : Below w.heap.size w ((w.alloc (.cells (enc (en0 ⟨#[]⟩)) 51)).alloc (.cells #[.int .i64 0] 24)) := below2 _ _ _
  obtain ⟨b, Hb⟩ : ∃ b, Hid (w.heap.size = b) := ⟨_, rfl⟩
  have hkS : ∀ w', Keep S ((w.alloc (.cells (enc (en0 ⟨#[]⟩)) 51)).alloc (.cells #[.int .i64 0] 24)) w' → Keep S w w' := fun w' k => (Keep.ofBelow hbW).trans k
  have hk0 : ∀ w', Keep S ((w.alloc (.cells (enc (en0 ⟨#[]⟩)) 51)).alloc (.cells #[.int .i64 0] 24)) w' → w'.heap[w.heap.size]? = some (.cells (enc (en0 ⟨#[]⟩)) 51 (0, 0)) := fun w' k => box_keep hz0 k (hS _ (Nat.le_refl _))
  have hk1 : ∀ w', Keep S ((w.alloc (.cells (enc (en0 ⟨#[]⟩)) 51)).alloc (.cells #[.int .i64 0] 24)) w' → w'.heap[w.heap.size + 1]? = some (.cells #[.int .i64 0] 24 (0, 0)) := fun w' k => box_keep hz1 k (hS _ (by omega))
  clear hz0 hz1 hbW
  by_cases h0 : n = 0
  · subst h0
    rw [if_pos rfl]
    have hc' := hc.mono (fun e w' h => And.intro (h.1.elim (fun k => k.2) (fun k => absurd rfl k.1)) h.2 : ∀ e w', _ → (e = .returned (.agg (enc x)) ∧ _))
    clear hc
    go_enter_defers Tryz.func50, Tryz.ntmps50
    go_wp2_with (first
      | (go_at_fn k; refine hc'.mono ?_; rintro e w1 ⟨rfl, hP, hB⟩; have z0 := hk0 w1 hB; have z1 := hk1 w1 hB; have hKS := hkS w1 hB; have s1 := box_keep z1 (rowK w1 w.heap.size (enc x)) (by omega); have hcl := cell_one s1; have hfz := thaw_one s1)
      | (refine wpList_store_row rfl 51 (.tmp 2) (.tmp 6) rfl w.heap.size (enc x) rfl rfl 51 _ z0 (by rw [infoEntry]; rfl) (by rfl) (enc_one x) ?_))
    refine leaves_cons (f := 88) (args := #[.pointer (some ⟨w.heap.size + 1, 0, none⟩)]) (by simp) (by simp [go_sem]) ?_
    refine (catchE_idle ⟨w.heap.size + 1, 0, none⟩ _).mono ?_
    rintro e u' w2 ⟨rfl, rfl, hw2⟩
    have y0 : w2.heap[w.heap.size]? = some (.cells (enc x) 51 (0, 0)) := by rw [hw2]; exact box_keep (setRow_heap w1 w.heap.size _ _ 51 (0, 0) z0) (setK _ (w.heap.size + 1) 0 _) (by omega)
    have y1 : w2.cell? ⟨w.heap.size + 1, 0, none⟩ = some (.int .i64 0) := by rw [hw2]; exact cell_one (block_setCell (i := 0) s1 (.int .i64 0))
    have hk2 : Keep (fun i => i = w.heap.size ∨ i = w.heap.size + 1) w1 w2 := by rw [hw2]; exact ((rowK w1 w.heap.size (enc x)).mono (fun i e => Or.inl e)).trans ((setK _ (w.heap.size + 1) 0 _).mono (fun i e => Or.inr e))
    clear hw2 hcl hfz s1 z0 z1
    have hld := run_loadVar_row w2 w.heap.size 51 51 _ (0, 0) _ y0 Tryz.underlying51 rfl (by rw [infoEntry]; rfl)
    simp only [Leaves, settle]
    exact ⟨_, res2 (by rfl) _ w2 _ _ _ _ (by rfl) (by rfl) hld y1, rfl, w1, hP, hKS, hk2⟩
  · rw [if_neg h0]
    have hc' := hc.mono (fun e w' h => And.intro (h.1.elim (fun k => absurd k.1 h0) (fun k => k.2)) h.2 : ∀ e w', _ → (e = .panicked (gaveR n) ∧ _))
    clear hc
    go_enter_defers Tryz.func50, Tryz.ntmps50
    go_wp2_with (first
      | (go_at_fn k; refine hc'.mono ?_; rintro e w1 ⟨rfl, hP, hB⟩; have z0 := hk0 w1 hB; have z1 := hk1 w1 hB; have hKS := hkS w1 hB; have hcl := cell_one z1; have hfz := thaw_one z1))
    refine leaves_cons (f := 88) (args := #[.pointer (some ⟨w.heap.size + 1, 0, none⟩)]) (by simp) (by simp [go_sem]) ?_
    refine (catchE_panicking ⟨w.heap.size + 1, 0, none⟩ 0 n _ hcl hfz).mono ?_
    rintro e u' w2 ⟨rfl, rfl, hw2⟩
    have y0 : w2.heap[w.heap.size]? = some (.cells (enc (en0 ⟨#[]⟩)) 51 (0, 0)) := by rw [hw2]; exact box_keep z0 (setK _ (w.heap.size + 1) 0 _) (by omega)
    have y1 : w2.cell? ⟨w.heap.size + 1, 0, none⟩ = some (.int .i64 n) := by rw [hw2]; exact cell_one (block_setCell (i := 0) z1 (.int .i64 n))
    have hk2 : Keep (fun i => i = w.heap.size ∨ i = w.heap.size + 1) w1 w2 := by rw [hw2]; exact (setK _ (w.heap.size + 1) 0 _).mono (fun i e => Or.inr e)
    clear hw2 hcl hfz z0 z1
    have hld := run_loadVar_row w2 w.heap.size 51 51 _ (0, 0) _ y0 Tryz.underlying51 rfl (by rw [infoEntry]; rfl)
    simp only [settle]
    exact ⟨_, res2 (by rfl) _ w2 _ _ _ _ (by rfl) (by rfl) hld y1, rfl, w1, hP, hKS, hk2⟩

theorem catchR_panicking (p : Addr) (x : Int) (n : Nat) (w : World) (hc : w.cell? p = some (.int .i64 x)) (hz : w.frozen? p = false) :
    CallsD Tryz.prog 68 #[.pointer (some p)] (.panicking (gaveR n)) w fun e u' w' =>
      e = .returned (.tuple #[]) ∧ u' = .panicking [{ v := .iface 113 (.agg #[.int .i64 n]), recovered := true }] ∧ w' = w.setCell p (.int .i64 n) := by
  unfold gaveR
  refine callsD_of_wpS Tryz.func68 rfl fun c₀ cs hu => ?_
  apply wpS_seq
  apply wpS_region
  simp [wpOpsS, go_sem, recoverD, hu, Tryz.ntmps68, Exit.thenS]
  refine wpS_of_wp ?_
  rw [show #[Value.pointer (some p)] ++ ((Array.replicate 7 undef).setIfInBounds 1 (Value.iface 113 (Value.agg #[Value.int IntKind.i64 n]))).setIfInBounds 0 (Value.iface 113 (Value.agg #[Value.int IntKind.i64 n])) = #[Value.pointer (some p), Value.iface 113 (Value.agg #[Value.int IntKind.i64 n]), Value.iface 113 (Value.agg #[Value.int IntKind.i64 n]), undef, undef, undef, undef, undef] from rfl]
  have hta : (Instr.typeAssert (Value.iface 113 (Value.agg #[Value.int IntKind.i64 n])) 20 113 false).run Tryz.prog w = .ok (Value.agg #[Value.int IntKind.i64 n]) w := by
    simp [Instr.typeAssert, go_sem]
  have hfd : (Instr.field 113 (Value.agg #[Value.int IntKind.i64 n]) 0).run Tryz.prog w = .ok (Value.int IntKind.i64 n) w := by
    simp [Instr.field, go_sem, asAgg]
  go_wp2
  simp [bodyPostS, results, Tryz.results68]
theorem catchR_idle (p : Addr) (w : World) :
    CallsD Tryz.prog 68 #[.pointer (some p)] .returning w fun e u' w' => e = .returned (.tuple #[]) ∧ u' = .returning ∧ w' = w := by
  refine callsD_of_wpS Tryz.func68 rfl fun c₀ cs hu => ?_
  apply wpS_seq
  apply wpS_region
  simp [wpOpsS, go_sem, recoverD, hu, Tryz.ntmps68, Exit.thenS]
  refine wpS_of_wp ?_
  rw [show #[Value.pointer (some p)] ++ ((Array.replicate 7 undef).setIfInBounds 1 Value.nilIface).setIfInBounds 0 Value.nilIface = #[Value.pointer (some p), Value.nilIface, Value.nilIface, undef, undef, undef, undef, undef] from rfl]
  go_wp2
  cases c₀
  simp_all [bodyPostS, results, Tryz.results68]

set_option maxHeartbeats 1600000 in
theorem attemptR (k : Nat) (caps : Array Value) (n : Nat) (q : Nat) (Post : World → Prop) (w : World) (hent : ∀ args w, (callFunc k args).run Tryz.prog w = .ok (.enter k args) w)
    (hc : Calls Tryz.prog k caps (w.alloc (.cells #[.int .i64 0] 24)) fun e w' => GaveV n (.pointer (some ⟨q, 0, none⟩)) e ∧ Post w' ∧ Below (w.heap.size + 1) (w.alloc (.cells #[.int .i64 0] 24)) w') :
    Calls Tryz.prog 27 #[.func (.func k) #[] caps] w fun e w' => e = .returned (.tuple #[if n = 0 then .pointer (some ⟨q, 0, none⟩) else .pointer none, .int .i64 n]) ∧ ∃ w1, Post w1 ∧ Below w.heap.size w w1 ∧ Keep (fun i => i = w.heap.size) w1 w' := by
  have hmf : ∀ (fn : Fn) (first cap : Array Value) (w : World), (Instr.makeFunc fn first cap).run Tryz.prog w = .ok (.func fn first cap) w := fun _ _ _ _ => rfl
  have hz1 : (w.alloc (.cells #[.int .i64 0] 24)).heap[w.heap.size]? = some (.cells #[.int .i64 0] 24 (0, 0)) := push_at _ _ rfl
  have hbW : Below w.heap.size w (w.alloc (.cells #[.int .i64 0] 24)) := below1 _ _
  have hkS : ∀ w', Below (w.heap.size + 1) (w.alloc (.cells #[.int .i64 0] 24)) w' → Below w.heap.size w w' := fun w' k => hbW.trans (k.mono (by omega))
  have hk1 : ∀ w', Below (w.heap.size + 1) (w.alloc (.cells #[.int .i64 0] 24)) w' → w'.heap[w.heap.size]? = some (.cells #[.int .i64 0] 24 (0, 0)) := fun w' k => (k.block w.heap.size (by omega)).trans hz1
  clear hz1 hbW
  by_cases h0 : n = 0
  · subst h0
    rw [if_pos rfl]
    have hc' := hc.mono (fun e w' h => And.intro (h.1.elim (fun k => k.2) (fun k => absurd rfl k.1)) h.2 : ∀ e w', _ → (e = .returned (.pointer (some ⟨q, 0, none⟩)) ∧ _))
    clear hc
    go_enter_defers Tryz.func27, Tryz.ntmps27
    go_wp2_with (first
      | (go_at_fn k; refine hc'.mono ?_; rintro e w1 ⟨rfl, hP, hB⟩; have z1 := hk1 w1 hB; have hKS := hkS w1 hB; have hcl := cell_one z1; have hfz := thaw_one z1))
    refine leaves_cons (f := 68) (args := #[.pointer (some ⟨w.heap.size, 0, none⟩)]) (by simp) (by simp [go_sem]) ?_
    refine (catchR_idle ⟨w.heap.size, 0, none⟩ _).mono ?_
    rintro e u' w2 ⟨rfl, rfl, hw2⟩
    have y1 : w2.cell? ⟨w.heap.size, 0, none⟩ = some (.int .i64 0) := by rw [hw2]; exact cell_one (block_setCell (i := 0) z1 (.int .i64 0))
    have hk2 : Keep (fun i => i = w.heap.size) w1 w2 := by rw [hw2]; exact setK _ w.heap.size 0 _
    clear hw2 hcl hfz z1
    simp only [Leaves, settle]
    exact ⟨_, res1 (by rfl) _ w2 _ _ _ (by rfl) (by rfl) y1, rfl, w1, hP, hKS, hk2⟩
  · rw [if_neg h0]
    have hc' := hc.mono (fun e w' h => And.intro (h.1.elim (fun k => absurd k.1 h0) (fun k => k.2)) h.2 : ∀ e w', _ → (e = .panicked (gaveR n) ∧ _))
    clear hc
    go_enter_defers Tryz.func27, Tryz.ntmps27
    go_wp2_with (first
      | (go_at_fn k; refine hc'.mono ?_; rintro e w1 ⟨rfl, hP, hB⟩; have z1 := hk1 w1 hB; have hKS := hkS w1 hB; have hcl := cell_one z1; have hfz := thaw_one z1))
    refine leaves_cons (f := 68) (args := #[.pointer (some ⟨w.heap.size, 0, none⟩)]) (by simp) (by simp [go_sem]) ?_
    refine (catchR_panicking ⟨w.heap.size, 0, none⟩ 0 n _ hcl hfz).mono ?_
    rintro e u' w2 ⟨rfl, rfl, hw2⟩
    have y1 : w2.cell? ⟨w.heap.size, 0, none⟩ = some (.int .i64 n) := by rw [hw2]; exact cell_one (block_setCell (i := 0) z1 (.int .i64 n))
    have hk2 : Keep (fun i => i = w.heap.size) w1 w2 := by rw [hw2]; exact setK _ w.heap.size 0 _
    clear hw2 hcl hfz z1
    simp only [settle]
    exact ⟨_, res1 (by rfl) _ w2 _ _ _ (by rfl) (by rfl) y1, rfl, w1, hP, hKS, hk2⟩

/-- A contact prepared, or an error. -/
theorem rlocal_any (s : ByteArray) (w : World) (hs : s.size ≤ 9223372036854775807) (hT : Lib.Utf8Tabs 2 3 w) :
    Calls Tryz.prog 53 #[.string s] w fun e w' => GaveV (Nm.localN s.data.toList).2 (.string ⟨(Nm.localN s.data.toList).1.toArray⟩) e ∧ Below w.heap.size w w' := by
  have hl := Nm.local_any s w hs hT
  unfold Nm.Told at hl
  generalize Nm.localN s.data.toList = p at hl ⊢
  obtain ⟨l, n⟩ := p
  have hd1 := fun w => demR_ok 0 w
  have hd0 := fun w => demR_no n w
  by_cases h0 : n = 0
  · subst h0
    go_enter Tryz.func53, Tryz.ntmps53
    go_wp2_with (first
      | (go_at_call 95; refine hl.mono ?_; rintro e w1 ⟨rfl, hb⟩)
      | (go_at_call 69; refine (hd1 _).mono ?_; rintro e w2 ⟨rfl, rfl⟩))
    go_ret
    exact ⟨gv_ok rfl, hb⟩
  · have z0 : ((n : Int) == 0) = false := by rw [beq_eq_false_iff_ne]; omega
    go_enter Tryz.func53, Tryz.ntmps53
    go_wp2_with (first
      | (go_at_call 95; refine hl.mono ?_; rintro e w1 ⟨rfl, hb⟩)
      | (go_at_call 69; refine (hd0 _).mono ?_; rintro e w2 ⟨rfl, rfl⟩))
    exact ⟨rfl, gv_no h0 rfl, hb⟩
end Go.Proofs.YtppdopcghnfapaaGreatDoor
