/- base64.Encode. -/
import Derived.Test.YtmilcknboaefkaaDoorB6A
import Derived.Test.YtmilcknboaefkaaDoorAnyP
namespace Go.Proofs.YtmilcknboaefkaaDoor
open Go.RowKit

theorem or8 {a y : Int} (h0 : 0 ≤ a) (h1 : a * 256 < 4294967296) (y0 : 0 ≤ y) (y1 : y ≤ 255) : bits .or .u32 (a * 256 % 4294967296) y = a * 256 + y := by
  obtain ⟨m, rfl⟩ : ∃ m : Nat, a = m := ⟨a.toNat, by omega⟩
  obtain ⟨k, rfl⟩ : ∃ k : Nat, y = k := ⟨y.toNat, by omega⟩
  have e : ((m : Int) * 256 % 4294967296) = ((m * 256 : Nat) : Int) := by omega
  rw [e, u32_or_nat _ _ (by omega) (by omega)]
  have : (m * 256 ||| k) = m * 256 + k := by
    rw [show m * 256 = m <<< 8 from by rw [Nat.shiftLeft_eq]]
    exact (Nat.shiftLeft_add_eq_or_of_lt (i := 8) (by omega) m).symm
  rw [this]; omega
theorem dg_key : ∀ j : Fin 64, (((⟨(65 :: 66 :: 67 :: 68 :: 69 :: 70 :: 71 :: 72 :: 73 :: 74 :: 75 :: 76 :: 77 :: 78 :: 79 :: 80 :: 81 :: 82 :: 83 :: 84 :: 85 :: 86 :: 87 :: 88 :: 89 :: 90 :: 97 :: 98 :: 99 :: 100 :: 101 :: 102 :: 103 :: 104 :: 105 :: 106 :: 107 :: 108 :: 109 :: 110 :: 111 :: 112 :: 113 :: 114 :: 115 :: 116 :: 117 :: 118 :: 119 :: 120 :: 121 :: 122 :: 48 :: 49 :: 50 :: 51 :: 52 :: 53 :: 54 :: 55 :: 56 :: 57 :: 43 :: 47 :: []).toArray⟩ : ByteArray).data.toList.getD j.val 0).toNat : Int) = dg j.val := by decide +kernel
theorem byte_at (S : ByteArray) (j : Nat) (h : j < S.size) : S[j] = S.data.toList.getD j 0 := by
  have h' : j < S.data.size := h
  show S.data[j] = _
  simp [List.getD, Array.getElem?_eq_getElem h']
theorem dg_ix (k : Int) (h0 : 0 ≤ k) (h1 : k < 64) (w : World) (K : IntKind) : (Instr.index 9 (.string ⟨(65 :: 66 :: 67 :: 68 :: 69 :: 70 :: 71 :: 72 :: 73 :: 74 :: 75 :: 76 :: 77 :: 78 :: 79 :: 80 :: 81 :: 82 :: 83 :: 84 :: 85 :: 86 :: 87 :: 88 :: 89 :: 90 :: 97 :: 98 :: 99 :: 100 :: 101 :: 102 :: 103 :: 104 :: 105 :: 106 :: 107 :: 108 :: 109 :: 110 :: 111 :: 112 :: 113 :: 114 :: 115 :: 116 :: 117 :: 118 :: 119 :: 120 :: 121 :: 122 :: 48 :: 49 :: 50 :: 51 :: 52 :: 53 :: 54 :: 55 :: 56 :: 57 :: 43 :: 47 :: []).toArray⟩) (.int K k)).run Tryd.prog w = .ok (.int .u8 (dg k.toNat)) w := by
  rw [run_index_string w 9 _ K _ Tryd.underlying9, dif_pos ⟨h0, by show k < 64; omega⟩]
  have hm : k.toNat < 64 := by omega
  have e := dg_key ⟨k.toNat, hm⟩
  have e2 := byte_at ⟨(65 :: 66 :: 67 :: 68 :: 69 :: 70 :: 71 :: 72 :: 73 :: 74 :: 75 :: 76 :: 77 :: 78 :: 79 :: 80 :: 81 :: 82 :: 83 :: 84 :: 85 :: 86 :: 87 :: 88 :: 89 :: 90 :: 97 :: 98 :: 99 :: 100 :: 101 :: 102 :: 103 :: 104 :: 105 :: 106 :: 107 :: 108 :: 109 :: 110 :: 111 :: 112 :: 113 :: 114 :: 115 :: 116 :: 117 :: 118 :: 119 :: 120 :: 121 :: 122 :: 48 :: 49 :: 50 :: 51 :: 52 :: 53 :: 54 :: 55 :: 56 :: 57 :: 43 :: 47 :: []).toArray⟩ k.toNat hm
  exact congrArg (fun z => Result.ok (Value.int .u8 z) w) ((congrArg (fun b : UInt8 => (b.toNat : Int)) e2).trans e)
/-- append(v, "="). -/
theorem wp_appPad {w : World} {ops : Array Oper} {rest : List Oper} {o : Oper} {a : Act} {Q : Exit → Act → World → Prop} (hgd : o.guard = none) (s : Operand)
    (ho : o.op = .call { callee := .builtin .append, args := #[s, .const (.string ⟨#[61]⟩)], argTypes := #[33, 9] })
    (base : Nat) (v : Value) (n : Nat) (xs : List Int) (hs : a.eval s = v) (hown : w.ownsRow base 5 1 v n (bc xs)) (hb : n ≤ 100000000) (hbase : base ≤ w.heap.size)
    (h : ∀ v' w', w'.ownsRow base 5 1 v' (n + 1) (bc (xs ++ [61])) → Below base w w' → wpList Tryd.prog ops Q rest (a.put o.dst v') w') : wpList Tryd.prog ops Q (o :: rest) a w := by
  obtain ⟨i0, hi, hz0, hz1, hz2⟩ := info_parts Tryd.info5
  have hsz : (⟨#[61]⟩ : ByteArray).size = 1 := rfl
  refine Lib.wpList_append_own_string w hgd s _ 33 9 ho base 5 i0 Tryd.underlying33 Tryd.underlying9 hi hz0 hz1 hz2 v n (bc xs) hs hown ⟨#[61]⟩ rfl (by unfold maxLen; omega) (by omega) hbase ?_
  intro v' w' h1 h2 _
  refine h v' w' ?_ ((Below.refl _ _).grown h2 hbase (fun k hk => (hown.lt k hk).1))
  rw [hsz] at h1
  simpa [bc, Lib.strCells] using h1
end Go.Proofs.YtmilcknboaefkaaDoor
