/- Rows that grow by one element: names, files. The document's List and put. -/
import Derived.Test.YtikkieaokfailaaGreatDoorDkJ
namespace Go.Proofs.YtikkieaokfailaaGreatDoor
open Go.RowKit Go.Joins

/-- 'append(v, x)' of one element, its cells in a new block. -/
theorem wp_app1 (t e : TypeId) (z : Value) (size bytes : Nat) (ht : Tryz.prog.underlying t = some (.slice e)) (hif : (Tryz.prog.info? e).map (fun i => (i.zero, i.size, i.bytes)) = some (some z, size, bytes)) (hzs : z.cells.size = size) (hsz : 0 < size) (hby : bytes ≤ 100)
    {w : World} {ops : Array Oper} {rest : List Oper} {o : Oper} {a : Act} {Q : Exit → Act → World → Prop} (hgd : o.guard = none) (s x : Operand)
    (ho : o.op = .call { callee := .builtin .append, args := #[s, x], argTypes := #[t, t] })
    (base : Nat) (v : Value) (n : Nat) (xs : List Value) (hs : a.eval s = v) (hown : w.ownsRow base e size v n xs) (cs : Array Value) (hcs : cs.size = size) (hone : ∀ u ∈ cs.toList, u.oneCell' = true)
    (hx : a.eval x = .slice (some ⟨w.heap.size, 0, none⟩) 1 1) (hn : n ≤ 1000000) (hbase : base ≤ w.heap.size)
    (h : ∀ v' w', w'.ownsRow base e size v' (n + 1) (xs ++ cs.toList) → Keep (fun k => v.ownBlock = some k) w w' → (v' ≠ .slice none 0 0) → wpList Tryz.prog ops Q rest (a.put o.dst v') w') : wpList Tryz.prog ops Q (o :: rest) a (w.alloc (.cells cs e)) := by
  obtain ⟨i0, hi, hz0, hz1, hz2⟩ := info_parts hif
  have hk0 : Keep (fun k => v.ownBlock = some k) w (w.alloc (.cells cs e)) := (Keep.refl _ _).alloc _
  have hown1 : (w.alloc (.cells cs e)).ownsRow base e size v n xs := own_keep (S := fun _ => False) hown ((Keep.refl _ _).alloc _) (fun _ _ h => h)
  refine wpList_append_own (w.alloc (.cells cs e)) hgd s x t ho base e i0 z size bytes ht hi hz0 hz1 hz2 hzs hsz v n xs hs hown1 ⟨w.heap.size, 0, none⟩ 1 1 cs.toList hx (by simp [hcs]) (fun j u hu => ?_) hone (by unfold maxLen; omega) (by
    have : (n + 1) * bytes ≤ (1000000 + 1) * 100 := Nat.mul_le_mul (by omega) hby
    omega) (by simp; omega) ?_
  · rw [add_flat, Nat.zero_add, cell_of_block (alloc_at w (.cells cs e))]
    simpa using hu
  · intro v' w' k1 k2 k3
    refine h v' w' k1 (hk0.trans (Keep.ofGrown k2)) (fun e => ?_)
    have := k3.1 e
    omega

theorem infoStr : (Tryz.prog.info? 9).map (fun i => (i.zero, i.size, i.bytes)) = some (some (.string ByteArray.empty), 1, 16) := by kernel_rfl
theorem infoFile : (Tryz.prog.info? 113).map (fun i => (i.zero, i.size, i.bytes)) = some (some (.agg #[.string ByteArray.empty, .slice none 0 0, .int .i64 0]), 3, 48) := by kernel_rfl

theorem own_formN {w : World} {B : Nat} {v : Value} {n : Nat} {xs : List Value} (h : w.ownsRow B 9 1 v n xs) : ∃ a c, v = .slice a n c ∧ n ≤ 9223372036854775807 := by
  rcases h.2 with ⟨rfl, rfl⟩ | ⟨g, cap, cur, rfl, _, _, h1, h2, _⟩
  · exact ⟨none, 0, rfl, by omega⟩
  · exact ⟨_, _, rfl, by unfold maxLen at h2; omega⟩

/-- What List tells. -/
def listK (k : Dk) : Nat × List Nm := if k.off then (13, []) else (0, k.fs.map Prod.fst)

set_option maxRecDepth 100000 in
set_option maxHeartbeats 2000000 in
theorem refList_any (rd : Nat) (G : Nat → Prop) (k : Dk) (hN9 : k.fs.length ≤ 1000000) (w : World) (hR : RefAt w G rd k) :
    Calls Tryz.prog 45 #[.pointer (some ⟨rd, 0, none⟩)] w fun e w' => ∃ v, e = .returned (.tuple #[v, .int .i64 (listK k).1]) ∧ w'.ownsRow w.heap.size 9 1 v (listK k).2.length (nv (listK k).2) ∧ Below w.heap.size w w' := by
  have hlt := hR.lt
  obtain ⟨⟨v, sl, hblk, hrow, hvG, _, _⟩, hGrd, _, _⟩ := hR
  have q0 : w.cell? ⟨rd, 0, none⟩ = some v := by rw [cell_of_block hblk]; rfl
  have q3 : w.cell? ⟨rd, 3, none⟩ = some (.bool k.off) := by rw [cell_of_block hblk]; rfl
  clear hblk
  cases on : k.off with
  | true =>
    have e : listK k = (13, []) := by unfold listK; rw [on]; rfl
    rw [e]
    rw [on] at q3
    clear on e
    go_enter Tryz.func45, Tryz.ntmps45
    go_wp2
    go_ret2
    exact ⟨_, rfl, ⟨rfl, Or.inl ⟨rfl, rfl⟩⟩, Below.refl _ _⟩
  | false =>
    have e : listK k = (0, k.fs.map Prod.fst) := by unfold listK; rw [on]; rfl
    rw [e]
    rw [on] at q3
    dsimp only
    rw [List.length_map]
    obtain ⟨va, vc, rfl, hvl⟩ := row_form hrow
    obtain ⟨N, HN⟩ : ∃ N, Hid (k.fs.length = N) := ⟨_, rfl⟩
    have HR : Hid (w.ownsRow 0 113 3 (.slice va k.fs.length vc) k.fs.length (ev sl k.fs)) := hrow
    rw [HN.out] at q0 hvl hN9 ⊢
    clear on e hrow
    go_enter Tryz.func45, Tryz.ntmps45
    go_wp2_with fail
    go_loopw [4, 5] (fun s4 s5 wr => ∃ i : Nat, i ≤ N ∧ s5 = .int .i64 i ∧ Hid (wr.ownsRow w.heap.size 9 1 s4 i (nv ((k.fs.take i).map Prod.fst))) ∧ Hid (Below w.heap.size w wr)) (fun _ s5 _ => N - (intOf s5).toNat)
    case atStart => exact ⟨0, by omega, rfl, ⟨rfl, Or.inl ⟨rfl, rfl⟩⟩, Below.refl _ _⟩
    case round =>
      obtain ⟨i, hi, rfl, HO, HB⟩ := hrel
      have p0 : wr.cell? ⟨rd, 0, none⟩ = some (.slice va N vc) := (HB.out.cell (p := ⟨rd, 0, none⟩) (World.block_lt_of_cell? w _ q0)).trans q0
      by_cases hil : i < N
      · have hcl : (i : Int) < (N : Int) := by omega
        have hpos : 0 < k.fs.length := by rw [HN.out]; omega
        obtain ⟨g, cap, e, hcap, hcm, hcs⟩ := row3 HR.out hpos
        cases e
        rw [HN.out] at hcap
        have hik : i < k.fs.length := by rw [HN.out]; exact hil
        obtain ⟨x, hx⟩ : ∃ x, k.fs[i]? = some x := ⟨_, List.getElem?_eq_getElem hik⟩
        have hc0 := (hcs i x hx).1
        have hc : wr.cell? ⟨g, i * 3, none⟩ = some (.string x.1) := (HB.out.cell (p := ⟨g, i * 3, none⟩) (World.block_lt_of_cell? w _ hc0)).trans hc0
        have htk : nv ((k.fs.take (i + 1)).map Prod.fst) = nv ((k.fs.take i).map Prod.fst) ++ [.string x.1] := by
          rw [List.take_add_one, hx]
          simp [nv]
        have HT : Hid (nv ((k.fs.take (i + 1)).map Prod.fst) = nv ((k.fs.take i).map Prod.fst) ++ [.string x.1]) := htk
        clear hcs htk hc0
        go_wp2_with (first
          | (at_builtin; refine wp_app1 81 9 (.string ByteArray.empty) 1 16 Tryz.underlying81 infoStr rfl (by decide) (by decide) rfl _ _ rfl w.heap.size _ i _ rfl HO.out #[.string x.1] rfl (by simp [Value.oneCell']) rfl (by omega) HB.out.size ?_; intro v' w1 ho1 hk1 hv1))
        have hB1 : Below w.heap.size w w1 := HB.out.trans (hk1.below HB.out.size (fun j hj => (HO.out.lt j hj).1))
        exact ⟨⟨i + 1, by omega, by go_num, by show World.ownsRow _ _ _ _ _ _ _; rw [HT.out]; exact ho1, hB1⟩, by simp [intOf]; omega⟩
      · obtain rfl : i = N := by omega
        have hcl : ¬ (i : Int) < (i : Int) := by omega
        have hO := HO.out
        rw [List.take_of_length_le (by rw [HN.out]; exact Nat.le_refl _)] at hO
        clear HO
        go_wp2
        go_ret2
        exact ⟨_, rfl, hO, HB.out⟩

end Go.Proofs.YtikkieaokfailaaGreatDoor
