/- What a text's runes are taken by: the three function values, and what eachRune asks of one. -/
import Derived.Test.YtiidjdedeenijaaDoorNmSmall
import Derived.Below
import Derived.Shelf.Abstract
import Derived.Test.YtiidjdedeenijaaDoorShelf
import Derived.WalkKit
import Derived.WalkLawsBesides
import Derived.WalkSpells
import Derived.BigCall
namespace Go.Proofs.YtiidjdedeenijaaDoor.Nm
open Go.RowKit

/-- Blocks from B on stand as they stood, and so do those below B0. -/
structure Aside (B0 B : Nat) (w w' : World) : Prop where
  below : Below B0 w w'
  size : w'.heap.size = w.heap.size
  above : ∀ k, B ≤ k → w'.heap[k]? = w.heap[k]?

theorem Aside.refl (B0 B : Nat) (w : World) : Aside B0 B w w := ⟨Below.refl _ _, rfl, fun _ _ => rfl⟩

/-- What eachRune asks of the function that takes the runes. -/
structure Taker (k : Nat) (caps : Array Value) (step : Int → Int → Option Int) (B0 B : Nat) (J : Int → World → Prop) : Prop where
  ent : ∀ args w, (callFunc k args).run Tryd.prog w = .ok (.enter k args) w
  call : ∀ st r W, J st W → 0 ≤ r → r ≤ 1114111 → Calls Tryd.prog k (#[.int .i32 r] ++ caps) W fun e W' =>
    (step st r = none ∧ e = .panicked (gaveUp 4) ∧ Below B0 W W') ∨ ∃ r', step st r = some r' ∧ e = .returned (.int .i32 r') ∧ J r' W' ∧ Aside B0 B W W'
  keep : ∀ st W W', J st W → Below B W W' → J st W'
  lim : ∀ st r r', 0 ≤ r → r ≤ 1114111 → step st r = some r' → 0 ≤ r' ∧ r' ≤ 1114200

theorem small_lim (r : Int) (h0 : 0 ≤ r) (h1 : r ≤ 1114111) : 0 ≤ small r ∧ small r ≤ 1114200 := by unfold small; split <;> omega
theorem foldR_lim (r : Int) (h0 : 0 ≤ r) (h1 : r ≤ 1114111) : 0 ≤ foldR r ∧ foldR r ≤ 1114200 := by unfold foldR; split <;> omega
theorem stepL_lim (st r r' : Int) (h0 : 0 ≤ r) (h1 : r ≤ 1114111) (h : stepL st r = some r') : 0 ≤ r' ∧ r' ≤ 1114200 := by
  unfold stepL at h; split at h
  · cases h; exact foldR_lim r h0 h1
  · cases h
theorem stepH_lim (st r r' : Int) (h0 : 0 ≤ r) (h1 : r ≤ 1114111) (h : stepH st r = some r') : 0 ≤ r' ∧ r' ≤ 1114200 := by
  unfold stepH at h; split at h
  · cases h; exact small_lim r h0 h1
  · cases h
theorem stepR_lim (st r r' : Int) (h0 : 0 ≤ r) (h1 : r ≤ 1114111) (h : stepR st r = some r') : 0 ≤ r' ∧ r' ≤ 1114200 := by
  unfold stepR at h; split at h
  · cases h; omega
  · cases h

theorem takeL_any (st r : Int) (w : World) (h0 : 0 ≤ r) (h1 : r ≤ 1114111) : Calls Tryd.prog 63 #[.int .i32 r] w fun e w' =>
    (stepL st r = none ∧ e = .panicked (gaveUp 4) ∧ w' = w) ∨ ∃ r', stepL st r = some r' ∧ e = .returned (.int .i32 r') ∧ w' = w := by
  unfold stepL
  generalize hL : letterB (foldR r) = L
  cases L with
  | true =>
    rw [if_pos rfl]
    go_enter Tryd.func63, Tryd.ntmps63
    go_wp2_with (first
      | (go_at_call 64; refine (folded_any _ _ h0 h1).mono ?_; rintro e w1 ⟨rfl, rfl⟩)
      | (go_at_call 65; refine (ofLocal_any _ _).mono ?_; rw [hL]; rintro e w1 ⟨rfl, rfl⟩))
    go_ret
    exact .inr ⟨_, rfl, rfl, rfl⟩
  | false =>
    rw [if_neg (by simp)]
    go_enter Tryd.func63, Tryd.ntmps63
    go_wp2_with (first
      | (go_at_call 64; refine (folded_any _ _ h0 h1).mono ?_; rintro e w1 ⟨rfl, rfl⟩)
      | (go_at_call 65; refine (ofLocal_any _ _).mono ?_; rw [hL]; rintro e w1 ⟨rfl, rfl⟩)
      | (go_at_call 66; refine (giveUp_any _ _).mono ?_; rintro e w1 ⟨rfl, rfl⟩))
    exact ⟨rfl, .inl ⟨trivial, rfl, rfl⟩⟩

theorem takerL (B : Nat) : Taker 63 #[] stepL B B (fun _ _ => True) :=
  ⟨enters_of Tryd.func63 (by kernel_rfl) rfl,
   fun st r W _ h0 h1 => (takeL_any st r W h0 h1).mono fun _ _ h => by
     rcases h with ⟨a, b, rfl⟩ | ⟨r', a, b, rfl⟩
     · exact .inl ⟨a, b, Below.refl _ _⟩
     · exact .inr ⟨r', a, b, trivial, Aside.refl _ _ _⟩,
   fun _ _ _ _ _ => trivial, stepL_lim⟩
/-- The variable that holds what stood last. -/
def LastAt (B : Nat) (st : Int) (w : World) : Prop := w.heap[B]? = some (.cells #[.int .i32 st] 21 (0, 0))

theorem LastAt.cell {B : Nat} {st : Int} {w : World} (h : LastAt B st w) : w.cell? ⟨B, 0, none⟩ = some (.int .i32 st) := by simp [World.cell?, show w.heap[B]? = _ from h]
theorem LastAt.thaw {B : Nat} {st : Int} {w : World} (h : LastAt B st w) : w.frozen? ⟨B, 0, none⟩ = false := by simp [World.frozen?, show w.heap[B]? = _ from h]
theorem LastAt.put {B : Nat} {st : Int} {w : World} (h : LastAt B st w) (r : Int) : LastAt B r (w.setCell ⟨B, 0, none⟩ (.int .i32 r)) := by
  show (w.setCell ⟨B, 0, none⟩ (.int .i32 r)).heap[B]? = _
  simp [World.setCell, Array.getElem?_modify, show w.heap[B]? = _ from h]
theorem LastAt.aside {B : Nat} {st : Int} {w : World} (_ : LastAt B st w) (r : Int) : Aside B (B + 1) w (w.setCell ⟨B, 0, none⟩ (.int .i32 r)) :=
  ⟨⟨rfl, rfl, rfl, by simp [World.setCell], fun k hk => Below.heap_setCell _ _ _ _ (by show k ≠ B; omega)⟩, by simp [World.setCell], fun k hk => Below.heap_setCell _ _ _ _ (by show k ≠ B; omega)⟩

end Go.Proofs.YtiidjdedeenijaaDoor.Nm

/- strings.Builder at this program: WriteRune, String; utf8.ValidString: the library's contracts laid, and copyCheck as this translation has it. -/
set_option maxRecDepth 100000
namespace Go.Proofs.YtiidjdedeenijaaDoor.Nm
open Go.RowKit Go.Shelf

theorem extra242 : Builder.Extra Tryd.prog Tryd.lays242_ren := {
  sizeBuilder := by kernel_rfl
  liesBuilder := by kernel_rfl
  t5 := Tryd.underlying5
  a5 := Tryd.isAgg5
  z5 := Tryd.sizeOf5
  v5 := Tryd.zeroValue5
  infoByte := by kernel_rfl
  cellsByte := by kernel_rfl
  sizeByte := by kernel_rfl
  neB5 := by decide }
theorem extra169 : Builder.Extra Tryd.prog Tryd.lays169_ren := {
  sizeBuilder := by kernel_rfl
  liesBuilder := by kernel_rfl
  t5 := Tryd.underlying5
  a5 := Tryd.isAgg5
  z5 := Tryd.sizeOf5
  v5 := Tryd.zeroValue5
  infoByte := by kernel_rfl
  cellsByte := by kernel_rfl
  sizeByte := by kernel_rfl
  neB5 := by decide }

theorem bString_any (B b : Nat) (l : List UInt8) (w : World) (h : Lib.IsBuilderF 132 5 B b (Lib.byteCells l) w) (hBw : B ≤ w.heap.size) :
    Calls Tryd.prog 81 #[.pointer (some ⟨b, 0, none⟩)] w fun e w' => e = .returned (.string ⟨l.toArray⟩) ∧ Below B w w' :=
  (Any.Builder_String_any_k Tryd.lays169 extra169 B b l w h hBw).mono fun _ _ h => ⟨h.1, h.2.2.1⟩

theorem validString_any (s : ByteArray) (w : World) (hs : s.size ≤ 9223372036854775807) (hT : Lib.Utf8Tabs 0 1 w) :
    Calls Tryd.prog 43 #[.string s] w fun e w' => e = .returned (.bool (Lib.validD s.data.toList)) ∧ Below w.heap.size w w' := Any.utf8_ValidString Tryd.lays196 s w hs hT

theorem appendRune_any (B : Nat) (v : Value) (n : Nat) (xs : List Value) (r : Int) (hr0 : -2147483648 ≤ r) (hr1 : r ≤ 2147483647) (w : World) (hown : w.ownsRowF B 5 1 v n xs) (hlen : n + 4 ≤ 140737488355328) (hBw : B ≤ w.heap.size) :
    Calls Tryd.prog 96 #[v, .int .i32 r] w fun e w' => ∃ v', e = .returned v' ∧ w'.ownsRowF B 5 1 v' (n + (Lib.runeCells r).length) (xs ++ Lib.runeCells r) ∧ ∃ o, (w.alloc o).grownBy w' v.ownBlock :=
  Any.utf8_AppendRune_own Tryd.lays242 extra242 B v n xs r hr0 hr1 w hown hlen hBw

/-- copyCheck of a builder that no one has written to: its own address is laid in it. -/
theorem copyCheck_new (b : Nat) (w : World) (h0 : w.cell? ⟨b, 0, none⟩ = some (.pointer none)) (hsh : w.shape? b = some (132, 2)) (hfz : w.frozen? ⟨b, 0, none⟩ = false) :
    Calls Tryd.prog 95 #[.pointer (some ⟨b, 0, none⟩)] w fun e w' => e = .returned (.tuple #[]) ∧ w' = w.setCell ⟨b, 0, none⟩ (.pointer (some ⟨b, 0, none⟩)) := by
  obtain ⟨j, hj, hjs⟩ := Option.map_eq_some_iff.1 extra242.sizeBuilder
  go_enter Tryd.func95, Tryd.ntmps95
  go_wp2
  rw [Lib.run_to_unsafe w ⟨b, 0, none⟩ Tryd.underlying130 Tryd.underlying155 hj (by rw [hjs]; decide) hsh (Nat.zero_lt_succ 1)]
  simp only [Result.andThen]
  rw [Oper.upon_value]
  go_wp2
  rw [run_callFunc_extern Tryd.func105 (by kernel_rfl) (by kernel_rfl) (by kernel_rfl) (e := Extern.AbiNoEscape.same) (by kernel_rfl), Lib.run_noEscape]
  simp only [Result.andThen]
  rw [Oper.upon_value]
  go_wp2
  rw [Lib.run_from_unsafe w ⟨b, 0, none⟩ Tryd.underlying155 Tryd.underlying130 hj hsh extra242.liesBuilder]
  simp only [Result.andThen]
  rw [Oper.upon_value]
  go_wp2
  go_end0
  exact ⟨rfl, rfl⟩
theorem copyCheck_old (b : Nat) (w : World) (h0 : w.cell? ⟨b, 0, none⟩ = some (.pointer (some ⟨b, 0, none⟩))) :
    Calls Tryd.prog 95 #[.pointer (some ⟨b, 0, none⟩)] w fun e w' => e = .returned (.tuple #[]) ∧ w' = w := by
  obtain ⟨j, hj, _⟩ := Option.map_eq_some_iff.1 extra242.sizeBuilder
  go_enter Tryd.func95, Tryd.ntmps95
  go_wp2
  rw [Lib.run_neq_ptr_same w _ Tryd.underlying130 hj]
  go_wp2
  go_end0
  exact ⟨rfl, rfl⟩
theorem copyCheck_any (B b : Nat) (bs : List Value) (w : World) (h : Lib.IsBuilderF 132 5 B b bs w) :
    Calls Tryd.prog 95 #[.pointer (some ⟨b, 0, none⟩)] w fun e w' => e = .returned (.tuple #[]) ∧ Lib.BuilderAtF 132 5 B b (.pointer (some ⟨b, 0, none⟩)) bs w' ∧ Below B w w' ∧ Lib.OthersKept 5 (some b) w w' := by
  rcases h with h | h
  · exact (copyCheck_new b w h.cell0 h.shape h.frozen0).mono fun e w' ⟨h1, h2⟩ => by
      subst h2
      exact ⟨h1, h.used _, (Below.refl B w).setCell (p := ⟨b, 0, none⟩) h.1 _, (Lib.OthersKept.refl _ _ w).setCell ⟨b, 0, none⟩ rfl _⟩
  · exact (copyCheck_old b w h.cell0).mono fun e w' ⟨h1, h2⟩ => by
      subst h2
      exact ⟨h1, h, Below.refl B _, Lib.OthersKept.refl _ _ _⟩

set_option maxHeartbeats 4000000 in
set_option maxRecDepth 100000 in
theorem writeRune_any (B b : Nat) (bs : List Value) (r : Int) (hr0 : -2147483648 ≤ r) (hr1 : r ≤ 2147483647) (w : World) (h : Lib.IsBuilderF 132 5 B b bs w) (hlen : bs.length + 4 ≤ 140737488355328) (hBw : B ≤ w.heap.size) :
    Calls Tryd.prog 80 #[.pointer (some ⟨b, 0, none⟩), .int .i32 r] w fun e w' => (∃ n : Int, e = .returned (.tuple #[.int .i64 n, .nilIface])) ∧ Lib.IsBuilderF 132 5 B b (bs ++ Lib.runeCells r) w' ∧ Below B w w' ∧ Lib.OthersKept 5 (some b) w w' := by
  have hk4 := Lib.runeCells_le r
  go_enter Tryd.func80, Tryd.ntmps80
  go_wp2_with (go_at_call 95; refine (copyCheck_any B b bs _ h).mono ?_)
  rintro e w1 ⟨rfl, ⟨hB, v, hbk, hown, hne⟩, hb1, hk1⟩
  have hz1 := hb1.size
  obtain ⟨ao, cap, rfl⟩ : ∃ ao cap, v = .slice ao bs.length cap := by
    rcases hown.2 with ⟨hv, h0⟩ | ⟨g, cap, cur, fz, hv, _⟩
    · exact ⟨none, 0, by rw [hv, h0]⟩
    · exact ⟨_, _, hv⟩
  have c1 : w1.cell? ⟨b, 1, none⟩ = some (.slice ao bs.length cap) := by rw [Lib.cell_of_heap hbk]; rfl
  go_wp2_with (go_at_call 96; refine (appendRune_any B _ bs.length bs r hr0 hr1 _ hown hlen (by omega)).mono ?_)
  rintro e w2 ⟨v', rfl, hown', o, hgrow⟩
  have hlt : b < w1.heap.size := (Array.getElem?_eq_some_iff.1 hbk).1
  have hb2 : w2.heap[b]? = some (.cells #[.pointer (some ⟨b, 0, none⟩), .slice ao bs.length cap] 132 (0, 0)) := by
    rw [hgrow.block b (by simp; omega) (fun e => hne e.symm), Lib.alloc_old w1 _ b hlt]
    exact hbk
  have d1 : w2.cell? ⟨b, 1, none⟩ = some (.slice ao bs.length cap) := by rw [Lib.cell_of_heap hb2]; rfl
  have f1 : w2.frozen? ⟨b, 1, none⟩ = false := Lib.frozen_of_heap hb2 1
  obtain ⟨g, cap', rfl⟩ : ∃ g cap', v' = .slice (some ⟨g, 0, none⟩) (bs.length + (Lib.runeCells r).length) cap' := by
    rcases hown'.2 with ⟨_, h0⟩ | ⟨g, cap', cur, fz, hv, _⟩
    · omega
    · exact ⟨g, cap', hv⟩
  go_wp2
  go_ret2
  refine ⟨⟨_, rfl⟩, Or.inr ?_, ?_, ((hk1.alloc _).grown hgrow (Lib.ownsRowF_kind (hown.alloc _))).setCell ⟨b, 1, none⟩ rfl _⟩
  · exact Lib.BuilderAtF.put (T := 132) (e := 5) hB hb2 (bs' := bs ++ Lib.runeCells r) (by simpa using hown') (by decide)
  · exact ((hb1.alloc (by omega) _).grown hgrow (by simp; omega) (fun k hk => (hown.lt k hk).1)).setCell (p := ⟨b, 1, none⟩) hB _
end Go.Proofs.YtiidjdedeenijaaDoor.Nm

/- eachRune: a text made anew out of what is told of its runes. -/
namespace Go.Proofs.YtiidjdedeenijaaDoor.Nm
open Go.RowKit

def ofEach : Option (List UInt8 × Int) → Except Nat (List UInt8 × Int)
  | none => .error 4
  | some p => .ok p
def eachX (step : Int → Int → Option Int) (l : List UInt8) : Except Nat (List UInt8 × Int) :=
  if 64 < l.length then .error 5
  else if l = [] ∨ Lib.validD l = false then .error 4
  else ofEach (each step 46 l)

/-- How eachRune ends. -/
def Ended (J : Int → World → Prop) : Except Nat (List UInt8 × Int) → Ending → World → Prop
  | .error n, e, _ => e = .panicked (gaveUp n)
  | .ok (bs, st), e, w => e = .returned (.string ⟨bs.toArray⟩) ∧ J st w

def finX (fin : Int → Bool) : Except Nat (List UInt8 × Int) → List UInt8 × Nat
  | .error n => ([], n)
  | .ok (bs, st) => if fin st = true then (bs, 0) else ([], 4)

theorem prep_eachX (step : Int → Int → Option Int) (fin : Int → Bool) (l : List UInt8) : prep step fin l = finX fin (eachX step l) := by
  unfold prep eachX
  split
  · rfl
  · split
    · rfl
    · cases each step 46 l <;> rfl

theorem bAt_aside {T e : TypeId} {B b B0 B1 : Nat} {p : Value} {bs : List Value} {w w' : World} (hB1 : B1 ≤ B) (h : Lib.BuilderAtF T e B b p bs w) (k : Aside B0 B1 w w') : Lib.BuilderAtF T e B b p bs w' := by
  obtain ⟨hB, v, hb, hown, hne⟩ := h
  refine ⟨hB, v, (k.above b (by omega)).trans hb, ⟨hown.1, ?_⟩, hne⟩
  rcases hown.2 with hn | ⟨g, cap, cur, fz, hv, hbg, hg, rest⟩
  · exact .inl hn
  · exact .inr ⟨g, cap, cur, fz, hv, hbg, (k.above g (by omega)).trans hg, rest⟩
theorem isB_aside {T e : TypeId} {B b B0 B1 : Nat} {bs : List Value} {w w' : World} (hB1 : B1 ≤ B) (h : Lib.IsBuilderF T e B b bs w) (k : Aside B0 B1 w w') : Lib.IsBuilderF T e B b bs w' :=
  h.elim (fun x => .inl (bAt_aside hB1 x k)) (fun x => .inr (bAt_aside hB1 x k))

theorem dec_width (s : ByteArray) (pos : Nat) : 1 ≤ (Utf8.decode s pos).2 := by rw [← Lib.decodeL_drop]; exact Lib.decodeL_width _
theorem dec_rune (s : ByteArray) (pos : Nat) : (Utf8.decode s pos).1 ≤ 1114111 := by rw [← Lib.decodeL_drop]; exact Lib.decodeL_rune _

set_option maxHeartbeats 4000000 in
set_option maxRecDepth 1000000 in
theorem each_any (k : Nat) (caps : Array Value) (step : Int → Int → Option Int) (B0 : Nat) (J : Int → World → Prop) (s : ByteArray) (w : World)
    (hs : s.size ≤ 9223372036854775807) (hB : B0 ≤ w.heap.size) (hK : Taker k caps step B0 w.heap.size J) (h46 : J 46 w) (hT : Lib.Utf8Tabs 0 1 w) :
    Calls Tryd.prog 62 #[.string s, .func (.func k) #[] caps] w fun e w' => Ended J (eachX step s.data.toList) e w' ∧ Below B0 w w' := by
  have hlen : s.data.toList.length = s.size := by simp
  unfold eachX
  rw [hlen]
  by_cases h64 : 64 < s.size
  · rw [if_pos h64]
    have h64' : (64 : Int) < (s.size : Int) := by omega
    go_enter Tryd.func62, Tryd.ntmps62
    go_wp2_with (go_at_call 66; refine (giveUp_any _ _).mono ?_; rintro e w1 ⟨rfl, rfl⟩)
    exact ⟨rfl, rfl, Below.refl _ _⟩
  rw [if_neg h64]
  have h64' : ¬ (64 : Int) < (s.size : Int) := by omega
  by_cases h0 : s.data.toList = []
  · rw [if_pos (.inl h0)]
    have hemp : s.toList.isEmpty = true := by rw [Lib.toList_data, h0]; rfl
    go_enter Tryd.func62, Tryd.ntmps62
    go_wp2_with (go_at_call 66; refine (giveUp_any _ _).mono ?_; rintro e w1 ⟨rfl, rfl⟩)
    exact ⟨rfl, rfl, Below.refl _ _⟩
  have hemp : s.toList.isEmpty = false := by
    rw [Lib.toList_data]
    cases h : s.data.toList with
    | nil => exact absurd h h0
    | cons b t => rfl
  have cV := validString_any s w hs hT
  generalize hV : Lib.validD s.data.toList = V at cV ⊢
  cases V with
  | false =>
    rw [if_pos (.inr rfl)]
    go_enter Tryd.func62, Tryd.ntmps62
    go_wp2_with (first
      | (go_at_call 43; refine cV.mono ?_; rintro e w0 ⟨rfl, hb0⟩)
      | (go_at_call 66; refine (giveUp_any _ _).mono ?_; rintro e w1 ⟨rfl, rfl⟩))
    exact ⟨rfl, rfl, hb0.mono hB⟩
  | true =>
    rw [if_neg (by simp [h0])]
    go_enter Tryd.func62, Tryd.ntmps62
    go_wp2_with (go_at_call 43; refine cV.mono ?_; rintro e w0 ⟨rfl, hb0⟩)
    have hz0 := hb0.size
    go_loopw [] (fun wr => ∃ (pos : Nat) (st : Int) (acc : List UInt8), Lib.IsBuilderF 132 5 w0.heap.size w0.heap.size (Lib.byteCells acc) wr ∧ wr.heap[w0.heap.size + 1]? = some (.stringIter s pos) ∧ Below B0 w wr ∧ J st wr ∧ acc.length ≤ 4 * pos ∧
      each step 46 s.data.toList = (match each step st (s.data.toList.drop pos) with | none => none | some (bs, st') => some (acc ++ bs, st'))) (fun wr => s.size - wr.iterPos (w0.heap.size + 1))
    case atStart =>
      refine ⟨0, 46, [], (Lib.IsBuilderF.of (Lib.fresh_isBuilder 132 5 w0)).alloc _, ?_, (((hb0.mono hB).alloc (by omega) _).alloc (by simp; omega) _), ?_, by simp, ?_⟩
      · have := World.iter_heap (w0.alloc (.cells #[.pointer none, .slice none 0 0] 132)) s 0
        simpa using this
      · exact hK.keep _ _ _ h46 ((hb0.alloc hz0 _).alloc (by simp; omega) _)
      · rw [List.drop_zero]
        cases each step 46 s.data.toList with
        | none => rfl
        | some p => rfl
    case round =>
      obtain ⟨pos, st, acc, hI, hit, hbw, hJ, hal, hea⟩ := hrel
      have hsz : w0.heap.size + 1 < wr.heap.size := (Array.getElem?_eq_some_iff.1 hit).1
      by_cases hp : pos < s.size
      · have hnx : ∀ ty, (Instr.next (.pointer (some ⟨w0.heap.size + 1, 0, none⟩)) true ty).run Tryd.prog wr = _ := fun ty => Lib.run_next_any_at wr (w0.heap.size + 1) s pos ty hit hp
        have hwd := dec_width s pos
        have hru := dec_rune s pos
        have hne : s.data.toList.drop pos ≠ [] := by
          intro h
          have := congrArg List.length h
          rw [List.length_drop, hlen] at this
          simp at this; omega
        rw [each_step step st _ hne, Lib.decodeL_drop, List.drop_drop] at hea
        have hI2 := hI.iterAt hit (pos + (Utf8.decode s pos).2)
        have hit2 := Lib.iterAt_heap wr (w0.heap.size + 1) s pos (pos + (Utf8.decode s pos).2) hit
        have hbw2 := Lib.below_iterAt hbw (k := w0.heap.size + 1) (by omega) s (pos + (Utf8.decode s pos).2)
        have hJ2 := hK.keep _ _ _ hJ (Lib.below_iterAt (Below.refl w.heap.size wr) (k := w0.heap.size + 1) (by omega) s (pos + (Utf8.decode s pos).2))
        have cC := hK.call st ((Utf8.decode s pos).1 : Int) _ hJ2 (by omega) (by omega)
        have eK := hK.ent
        go_wp2_with (go_at_fn k; refine cC.mono ?_)
        rintro e W1 (⟨hst, rfl, hb1⟩ | ⟨r', hst, rfl, hJ1, hA1⟩)
        · rw [hst] at hea
          exact ⟨rfl, by rw [hea]; rfl, hbw2.trans hb1⟩
        · rw [hst] at hea
          have hlim := hK.lim st _ r' (by omega) (by omega) hst
          have hI3 := isB_aside hz0 hI2 hA1
          have hit3 := (hA1.above (w0.heap.size + 1) (by omega)).trans hit2
          have hz3 := hA1.size
          rw [Lib.iterAt_size] at hz3
          go_wp2_with (go_at_call 80; refine (writeRune_any w0.heap.size w0.heap.size _ r' (by omega) (by omega) _ hI3 (by rw [Lib.byteCells_length]; omega) (by omega)).mono ?_)
          rintro e W2 ⟨⟨n, rfl⟩, hI4, hb4, hk4⟩
          go_wp2
          go_roundw
          case rel =>
            have hl4 := Lib.runeCells_le r'
            rw [Lib.runeCells_length] at hl4
            refine ⟨pos + (Utf8.decode s pos).2, r', acc ++ Lib.encodeRune r', ?_, hk4.iter hit3 (by omega), (hbw2.trans hA1.below).trans (hb4.mono (by omega)), hK.keep _ _ _ hJ1 (hb4.mono hz0), by simp; omega, ?_⟩
            · rw [Lib.byteCells_append, Lib.byteCells_encodeRune]; exact hI4
            · rw [hea]
              cases each step r' (s.data.toList.drop (pos + (Utf8.decode s pos).2)) with
              | none => rfl
              | some p => simp
          case measure =>
            simp only [World.iterPos, hk4.iter hit3 (by omega), hit]
            omega
      · have hnx : ∀ ty, (Instr.next (.pointer (some ⟨w0.heap.size + 1, 0, none⟩)) true ty).run Tryd.prog wr = _ := fun ty => Lib.run_next_end_at wr (w0.heap.size + 1) s pos ty hit hp
        rw [List.drop_of_length_le (by rw [hlen]; omega), each_nil] at hea
        simp only [List.append_nil] at hea
        go_wp2_with (go_at_call 81; refine (bString_any w0.heap.size w0.heap.size acc _ hI (by omega)).mono ?_)
        rintro e W1 ⟨rfl, hb1⟩
        go_wp2
        go_ret
        rw [hea]
        exact ⟨⟨rfl, hK.keep _ _ _ hJ (hb1.mono hz0)⟩, hbw.trans (hb1.mono (by omega))⟩
end Go.Proofs.YtiidjdedeenijaaDoor.Nm
