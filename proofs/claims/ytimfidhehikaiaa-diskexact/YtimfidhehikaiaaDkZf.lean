/- The document's disk: Restart. -/
import Derived.Test.YtimfidhehikaiaaDkZg
namespace Go.Proofs.Ytimfidhehikaiaa
open Go.RowKit Go.Joins

set_option maxRecDepth 100000 in
set_option maxHeartbeats 8000000 in
theorem refRestart_any (rd : Nat) (G : Nat → Prop) (k : Dk) (bk : Nat) (v : Value) (keep : List Int) (hfl : k.fs.length < 1000000) (w : World) (hR : RefAt w G rd k) (hI : IRd w bk v keep) (hbk : keep ≠ [] → ¬ G bk) :
    Calls Try.prog 36 #[.pointer (some ⟨rd, 0, none⟩), v] w fun e w' => e = .returned (.tuple #[]) ∧ Rp w G rd (restK k keep) w' := by
  obtain ⟨R, HRe⟩ : ∃ R, Hid (restL k.fs keep = R) := ⟨_, rfl⟩
  have hrk : restK k keep = { k with fs := R, off := false, fu := none } := by unfold restK; rw [HRe.out]
  rw [hrk]
  obtain ⟨N, HN⟩ : ∃ N, Hid (k.fs.length = N) := ⟨_, rfl⟩
  rw [HN.out] at hfl
  obtain ⟨ka, kc, rfl, hkl, hkm, hkcell⟩ := hI
  obtain ⟨K, HK⟩ : ∃ K, Hid (keep.length = K) := ⟨_, rfl⟩
  rw [HK.out] at hkl hkcell ⊢
  clear hrk
  go_enter Try.func36, Try.ntmps36
  go_wp2_with fail
  go_loopw [4, 5, 6, 7, 8] (fun s4 s5 _ _ _ wr => ∃ (i n : Nat) (dn rest : Fls), s5 = .int .i64 i ∧ s4 = .int .i64 n ∧ n ≤ i ∧ dn.length = i ∧ Hid (dn ++ restL rest (keep.drop n) = R) ∧ Hid ((dn ++ rest).map Prod.fst = k.fs.map Prod.fst) ∧ Rp w G rd { k with fs := dn ++ rest } wr) (fun _ s5 _ _ _ _ => N - (intOf s5).toNat)
  case atStart => exact ⟨0, 0, [], k.fs, rfl, rfl, Nat.le_refl _, rfl, by show [] ++ restL k.fs (keep.drop 0) = R; rw [List.drop_zero]; exact HRe.out, rfl, Rp.refl hR⟩
  case round =>
    obtain ⟨i, n, dn, rest, rfl, rfl, hni, hdn, HR, HNm, Gi, hRi, hki, hGi⟩ := hrel
    have hlenN : dn.length + rest.length = N := by
      have h := congrArg List.length HNm.out
      simp only [List.length_map, List.length_append] at h
      rw [h]; exact HN.out
    cases rest with
    | nil =>
      simp only [List.length_nil] at hlenN
      obtain rfl : i = N := by omega
      have hcl : ¬ (i : Int) < (i : Int) := by omega
      have hRR : dn = R := by have h := HR.out; simpa [restL] using h
      rw [List.append_nil] at hRi
      have hg := hRi.good
      have hfl0 : dn.length = i := by omega
      obtain ⟨v9, hblk, hT⟩ := hRi.turn
      have q0 : wr.cell? ⟨rd, 0, none⟩ = some v9 := by rw [cell_of_block hblk]; rfl
      obtain ⟨va, vc, hvf⟩ : ∃ a c, v9 = .slice a i c := by
        obtain ⟨⟨v8, sl, hb8, hr8, _⟩, _⟩ := hRi
        obtain ⟨a, c, e, _⟩ := row_form hr8
        have h2 : wr.cell? ⟨rd, 0, none⟩ = some v8 := by rw [cell_of_block hb8]; rfl
        rw [q0] at h2
        injection h2 with h2
        exact ⟨a, c, by rw [h2, e, ← hfl0]⟩
      subst hvf
      have q3 : wr.cell? ⟨rd, 3, none⟩ = some (.bool k.off) := by rw [cell_of_block hblk]; rfl
      have z3 := unfrozen_of_block hblk 3
      have hb3 := block_setCell (i := 3) hblk (.bool false)
      have q4 : (wr.setCell ⟨rd, 3, none⟩ (.bool false)).cell? ⟨rd, 4, none⟩ = some (.int .i64 (leftK k)) := by rw [cell_of_block hb3]; rfl
      have z4 := unfrozen_of_block hb3 4
      have hb4 := block_setCell (i := 4) hb3 (.int .i64 (-1))
      have hkk : Keep (fun i => i = rd) wr ((wr.setCell ⟨rd, 3, none⟩ (.bool false)).setCell ⟨rd, 4, none⟩ (.int .i64 (-1))) := ((Keep.refl (fun i => i = rd) wr).setCell (p := ⟨rd, 3, none⟩) rfl _).setCell (p := ⟨rd, 4, none⟩) rfl _
      clear HNm hblk hb3
      go_wp2
      go_end0
      refine ⟨rfl, ?_⟩
      rw [← hRR]
      exact Rp.next hki hGi (hT _ { k with fs := dn, off := false, fu := none } rfl ⟨hg.room, hg.rise, hg.used, hg.each, fun j e => by cases e⟩ (by rw [hb4]; rfl) hkk)
    | cons q post =>
      obtain ⟨nm, f⟩ := q
      simp only [List.length_cons] at hlenN
      have hcl : (i : Int) < (N : Int) := by omega
      have hg := hRi.good
      have hlkm := look_mid (f := f) hg.rise
      obtain ⟨hnm, hsf, hbd⟩ := look_good hg hlkm
      have hfu : f.b.length ≤ 16777216 := by
        have h1 := lenO_used (dn ++ (nm, f) :: post) nm
        rw [hlkm] at h1
        have h2 := hg.used
        have h3 := hg.room
        have h4 : lenO (some f) = f.b.length := rfl
        have h5 : ({ k with fs := dn ++ (nm, f) :: post } : Dk).fs = dn ++ (nm, f) :: post := rfl
        rw [h5] at h2
        omega
      have hix0 : ({ k with fs := dn ++ (nm, f) :: post } : Dk).fs[i]? = some (nm, f) := by rw [← hdn]; exact mid_at dn post (nm, f)
      have Hix : Hid (({ k with fs := dn ++ (nm, f) :: post } : Dk).fs[i]? = some (nm, f)) := hix0
      have hflN : (dn ++ (nm, f) :: post).length = N := by simp; omega
      obtain ⟨ki, hkie⟩ : ∃ ki : Dk, ({ k with fs := dn ++ (nm, f) :: post } : Dk) = ki := ⟨_, rfl⟩
      have Hki : Hid (({ k with fs := dn ++ (nm, f) :: post } : Dk) = ki) := hkie
      have HNf : Hid (ki.fs.length = N) := by show _ = _; rw [← hkie]; exact hflN
      have Hput : Hid (∀ g, ({ ki with fs := putL ki.fs nm g } : Dk) = { k with fs := dn ++ (nm, g) :: post }) := fun g => by rw [← hkie]; show ({ k with fs := putL (dn ++ (nm, f) :: post) nm g } : Dk) = _; rw [put_mid hg.rise]
      have HgC : Hid (∀ z n, z ≤ f.b.length → n ≤ z → ({ ki with fs := putL ki.fs nm ⟨f.b.take z, n⟩ } : Dk).Good) := fun z n hz hn => by
        have hlk : look ki.fs nm = some f := by rw [← hkie]; exact hlkm
        have hgk : ki.Good := by rw [← hkie]; exact hg
        have hup := used_put ki.fs hgk.rise nm ⟨f.b.take z, n⟩
        rw [hlk] at hup
        have hle : lenO (some f) = f.b.length := rfl
        have hcl : (⟨f.b.take z, n⟩ : Fle).b.length = z := by show (f.b.take z).length = z; rw [List.length_take]; omega
        rw [hle, hcl] at hup
        have h := hgk.used
        exact good_put hgk hnm (by rw [hcl]; exact hn) (hbd.take z) (by omega)
      rw [hkie] at hRi
      rw [hkie] at hix0
      obtain ⟨g0, cap0, aj, cj, q0, hcap0, qs, q1, q2, _, hRj, _, _⟩ := hRi.rowj hix0
      obtain ⟨ln, HLn⟩ : ∃ ln, Hid (f.b.length = ln) := ⟨_, rfl⟩
      rw [HNf.out] at q0 hcap0
      rw [HLn.out] at q1 hRj hsf hfu
      have hlenB := fun w => len_slice aj ln cj 31 3 w Try.underlying31
      have hi0 : (0 : Int) ≤ (i : Int) := by omega
      have hwm : wrap64 ((ln : Int) - (f.safe : Int)) = (ln : Int) - (f.safe : Int) := by unfold wrap64; omega
      have hbw : ∀ o : Obj, Below wr.heap.size wr (wr.alloc o) := fun o => (Below.refl _ _).alloc (Nat.le_refl _) _
      clear hkie hix0 hlkm hflN hg
      by_cases hmore : ln = f.safe
      · -- nothing is loose
        have hm0 : ¬ (0 : Int) < (ln : Int) - (f.safe : Int) := by omega
        have hgA := HgC.out ln f.safe (by rw [HLn.out]; exact Nat.le_refl _) hsf
        have htk : f.b.take ln = f.b := by rw [← HLn.out]; exact List.take_length
        rw [htk] at hgA
        go_upto_region 12 with fail
        generalize hZe : wr.alloc _ = Z
        have hbe : Below wr.heap.size wr Z := by rw [← hZe]; exact hbw _
        refine wp_region_lx (fun w' => w' = Z.drew) [16] 17 (by kernel_rfl) (by kernel_rfl) ?_
        have hbX : Below wr.heap.size wr Z.drew := hbe.drew
        clear hZe
        generalize Z.drew = X2 at *
        have hRX := hRi.below hbX
        have Q0 := (hbX.cell (World.block_lt_of_cell? _ _ q0)).trans q0
        have Q1 := (hbX.cell (World.block_lt_of_cell? _ _ q1)).trans q1
        have Q2 := (hbX.cell (World.block_lt_of_cell? _ _ q2)).trans q2
        obtain ⟨g1, cap1, aj1, cj1, e0, _, _, _, _, _, _, zz, hset⟩ := hRX.rowj (by have h := Hix.out; rw [Hki.out] at h; exact h)
        have hgg : g1 = g0 := by rw [Q0] at e0; injection e0 with h; injection h with h _ _; injection h with h; injection h with h; exact h.symm
        have hRp := hset f.safe hgA
        rw [hgg] at hRp zz
        rw [Hput.out] at hRp
        have hls : (ln : Int) = (f.safe : Int) := by omega
        clear e0 hset hgg
        have HSwa : X2 = X2 := rfl
        refine lx_rd 0 ?vwa0 (by kernel_rfl) (fun _ _ d _ _ h => by cases d <;> exact h) (by kernel_rfl) HSwa rfl rfl rfl (fun w' hS => ?hwa0) ?_
        case hwa0 => first | (go_simp; rfl) | go_simp
        simp only [List.setIfInBounds_toArray, List.set_cons_zero, List.set_cons_succ]
        refine lx_rd 1 ?vwa1 (by kernel_rfl) (fun _ _ d _ _ h => by cases d <;> exact h) (by kernel_rfl) HSwa rfl rfl rfl (fun w' hS => ?hwa1) ?_
        case hwa1 => first | (go_simp; rfl) | go_simp
        simp only [List.setIfInBounds_toArray, List.set_cons_zero, List.set_cons_succ]
        refine lx_rd 2 ?vwa2 (by kernel_rfl) (fun _ _ d _ _ h => by cases d <;> exact h) (by kernel_rfl) HSwa rfl rfl rfl (fun w' hS => ?hwa2) ?_
        case hwa2 => first | (go_simp; rfl) | go_simp
        simp only [List.setIfInBounds_toArray, List.set_cons_zero, List.set_cons_succ]
        refine lx_rd 3 (.slice (some ⟨g0, 0, none⟩) N cap0) (by kernel_rfl) (fun _ _ d _ _ h => by cases d <;> exact h) (by kernel_rfl) HSwa rfl rfl rfl (fun w' hS => ?hwa3) ?_
        case hwa3 => subst hS; first | (go_simp; rfl) | go_simp
        simp only [List.setIfInBounds_toArray, List.set_cons_zero, List.set_cons_succ]
        refine lx_rd 4 ?vwa4 (by kernel_rfl) (fun _ _ d _ _ h => by cases d <;> exact h) (by kernel_rfl) HSwa rfl rfl rfl (fun w' hS => ?hwa4) ?_
        case hwa4 => first | (go_simp; rfl) | go_simp
        simp only [List.setIfInBounds_toArray, List.set_cons_zero, List.set_cons_succ]
        refine lx_rd 5 ?vwa5 (by kernel_rfl) (fun _ _ d _ _ h => by cases d <;> exact h) (by kernel_rfl) HSwa rfl rfl rfl (fun w' hS => ?hwa5) ?_
        case hwa5 => first | (go_simp; rfl) | go_simp
        simp only [List.setIfInBounds_toArray, List.set_cons_zero, List.set_cons_succ]
        refine lx_rd 6 ?vwa6 (by kernel_rfl) (fun _ _ d _ _ h => by cases d <;> exact h) (by kernel_rfl) HSwa rfl rfl rfl (fun w' hS => ?hwa6) ?_
        case hwa6 => first | (go_simp; rfl) | go_simp
        simp only [List.setIfInBounds_toArray, List.set_cons_zero, List.set_cons_succ]
        refine lx_rd 7 ?vwa7 (by kernel_rfl) (fun _ _ d _ _ h => by cases d <;> exact h) (by kernel_rfl) HSwa rfl rfl rfl (fun w' hS => ?hwa7) ?_
        case hwa7 => first | (go_simp; rfl) | go_simp
        simp only [List.setIfInBounds_toArray, List.set_cons_zero, List.set_cons_succ]
        refine lx_rd 8 (.slice (some ⟨g0, 0, none⟩) N cap0) (by kernel_rfl) (fun _ _ d _ _ h => by cases d <;> exact h) (by kernel_rfl) HSwa rfl rfl rfl (fun w' hS => ?hwa8) ?_
        case hwa8 => subst hS; first | (go_simp; rfl) | go_simp
        simp only [List.setIfInBounds_toArray, List.set_cons_zero, List.set_cons_succ]
        refine lx_rd 9 ?vwa9 (by kernel_rfl) (fun _ _ d _ _ h => by cases d <;> exact h) (by kernel_rfl) HSwa rfl rfl rfl (fun w' hS => ?hwa9) ?_
        case hwa9 => first | (go_simp; rfl) | go_simp
        simp only [List.setIfInBounds_toArray, List.set_cons_zero, List.set_cons_succ]
        refine lx_rd 10 (.pointer (some ⟨g0, i * 3, none⟩)) (by kernel_rfl) (fun _ _ d _ _ h => by cases d <;> exact h) (by kernel_rfl) HSwa rfl rfl rfl (fun w' hS => ?hwa10) ?_
        case hwa10 => first | (go_simp; rfl) | go_simp
        simp only [List.setIfInBounds_toArray, List.set_cons_zero, List.set_cons_succ]
        refine lx_rd 11 (.pointer (some ⟨g0, i * 3 + 1, none⟩)) (by kernel_rfl) (fun _ _ d _ _ h => by cases d <;> exact h) (by kernel_rfl) HSwa rfl rfl rfl (fun w' hS => ?hwa11) ?_
        case hwa11 => first | (go_simp; rfl) | go_simp
        simp only [List.setIfInBounds_toArray, List.set_cons_zero, List.set_cons_succ]
        refine lx_rd 12 (.slice aj ln cj) (by kernel_rfl) (fun _ _ d _ _ h => by cases d <;> exact h) (by kernel_rfl) HSwa rfl rfl rfl (fun w' hS => ?hwa12) ?_
        case hwa12 => subst hS; first | (go_simp; rfl) | go_simp
        simp only [List.setIfInBounds_toArray, List.set_cons_zero, List.set_cons_succ]
        refine lx_rd 13 (.int .i64 ln) (by kernel_rfl) (fun _ _ d _ _ h => by cases d <;> exact h) (by kernel_rfl) HSwa rfl rfl rfl (fun w' hS => ?hwa13) ?_
        case hwa13 => first | (go_simp; rfl) | go_simp
        simp only [List.setIfInBounds_toArray, List.set_cons_zero, List.set_cons_succ]
        refine lx_one 14 (by kernel_rfl) (stepT_val (w' := X2) (.pointer (some ⟨g0, i * 3, none⟩)) rfl rfl rfl ?r14wa (fun _ => rfl) ?_)
        case r14wa => first | (go_simp; rfl) | go_simp
        simp only [List.setIfInBounds_toArray, List.set_cons_zero, List.set_cons_succ]
        refine lx_one 15 (by kernel_rfl) (stepT_val (w' := X2) (.pointer (some ⟨g0, i * 3 + 2, none⟩)) rfl rfl rfl ?r15wa (fun _ => rfl) ?_)
        case r15wa => first | (go_simp; rfl) | go_simp
        simp only [List.setIfInBounds_toArray, List.set_cons_zero, List.set_cons_succ]
        refine lx_one 16 (by kernel_rfl) (stepT_store (w' := X2.setCell ⟨g0, i * 3 + 2, none⟩ (.int .i64 (ln : Int))) rfl rfl rfl ?r16wa (fun h => by cases h) ?_)
        case r16wa => first | (go_simp; rfl) | go_simp
        refine lx_nil (by kernel_rfl) ?_
        go_wp2
        refine ⟨⟨i + 1, n, dn ++ [(nm, f)], post, by go_num, rfl, by omega, by simp [hdn], ?_, ?_, ?_⟩, by simp [intOf]; omega⟩
        · show (dn ++ [(nm, f)]) ++ restL post (keep.drop n) = R
          rw [← HR.out, List.append_assoc]
          show _ = dn ++ restL ((nm, f) :: post) (keep.drop n)
          conv => rhs; unfold restL
          rw [if_pos (by rw [HLn.out]; exact hmore)]
          rfl
        · show List.map Prod.fst _ = _
          rw [← HNm.out]; simp
        · rw [List.append_assoc]
          exact Rp.next hki hGi (Rp.next (Keep.ofBelow hbX) (fun i hi => Or.inl hi) hRp)
      · -- some are
        have hm0 : (0 : Int) < (ln : Int) - (f.safe : Int) := by omega
        have hHR : Hid (dn ++ (nm, restF f (keep.getD n 0)) :: restL post (keep.drop (n + 1)) = R) := by
          have h := HR.out
          have h2 : restL ((nm, f) :: post) (keep.drop n) = (nm, restF f ((keep.drop n).headD 0)) :: restL post (keep.drop n).tail := by
            conv => lhs; unfold restL
            rw [if_neg (by rw [HLn.out]; exact hmore)]
          rw [h2, headD_drop, tail_drop] at h
          exact h
        clear HR
        by_cases hnK : n < K
        · have hcn : (n : Int) < (K : Int) := by omega
          have hkne : keep ≠ [] := fun e => by have h := HK.out; rw [e] at h; simp at h; omega
          obtain ⟨off, rfl, hkc⟩ := hkcell hkne
          have hzc := hki.cell (hkc n hnK) (hbk hkne)
          have hn0 : (0 : Int) ≤ (n : Int) := by omega
          obtain ⟨zv, hzv⟩ : ∃ zv, keep.getD n 0 = zv := ⟨_, rfl⟩
          rw [hzv] at hzc hHR
          have hzcA := fun (o : Obj) => ((Keep.refl (fun _ => False) wr).alloc o).cell hzc (fun h => h)
          by_cases hzp : 0 < zv
          · obtain ⟨kq, hkq, hkl, hrf⟩ := rest_pos f zv hzp (by rw [HLn.out]; exact hsf)
            rw [HLn.out] at hkq hkl
            obtain ⟨lk, HL⟩ : ∃ lk : Nat, Hid (lk = f.safe + kq) := ⟨f.safe + kq, rfl⟩
            have HRF : Hid (restF f zv = ⟨f.b.take lk, lk⟩) := by show _ = _; rw [HL.out]; exact hrf
            have hlkl : lk ≤ ln := by rw [HL.out]; exact hkl
            have hlk9 : lk ≤ 16777216 := Nat.le_trans hlkl hfu
            have hwk0 : wrap64 (lk : Int) = (lk : Int) := by clear hwm hkq; unfold wrap64; omega
            have hsk : (f.safe : Int) + (kq : Int) = (lk : Int) := by rw [HL.out]; exact (Int.natCast_add _ _).symm
            have hwk : wrap64 ((f.safe : Int) + (kq : Int)) = (lk : Int) := by rw [hsk]; exact hwk0
            have hwk2 : IntKind.i64.wrap ((f.safe : Int) + (kq : Int)) = (lk : Int) := by clear hwm hwk hwk0 hkq; rw [IntKind.wrap_i64, hsk]; omega
            have Hwk : Hid (wrap64 ((f.safe : Int) + (kq : Int)) = (lk : Int)) := hwk
            have Hwk2 : Hid (IntKind.i64.wrap ((f.safe : Int) + (kq : Int)) = (lk : Int)) := hwk2
            clear hsk hrf hwk hwk2 hwk0
            have hkq9 : kq ≤ 16777216 := Nat.le_trans (Nat.le_add_left _ _) (Nat.le_trans hkl hfu)
            have hne1 : ¬ ((ln : Int) - (f.safe : Int) + 1 = 0) := by clear hwm; omega
            have hw1 : wrap64 ((ln : Int) - (f.safe : Int) + 1) = (ln : Int) - (f.safe : Int) + 1 := by clear hwm hkq; unfold wrap64; omega
            have hwq : wrap64 (kq : Int) = (kq : Int) := by clear hwm hkq hw1; unfold wrap64; omega
            have hne2 : ((ln : Int) - (f.safe : Int) + 1 == 0) = false := by rw [beq_eq_false_iff_ne]; exact hne1
            have htm : Int.tmod zv ((ln : Int) - (f.safe : Int) + 1) = (kq : Int) := by rw [Int.tmod_eq_emod_of_nonneg (Int.le_of_lt hzp)]; exact hkq
            have hgN := HgC.out lk lk (by rw [HLn.out]; exact hlkl) (Nat.le_refl _)
            go_upto_region 11 with fail
            clear hwm hw1 hwq
            have hbe := hbw (.cells #[.string nm, .slice aj ln cj, .int .i64 (f.safe : Int)] 81)
            have hfil := alloc_at wr (.cells #[.string nm, .slice aj ln cj, .int .i64 (f.safe : Int)] 81)
            obtain ⟨bf, hbf⟩ : ∃ bf, wr.heap.size = bf := ⟨_, rfl⟩
            rw [hbf] at hfil ⊢
            generalize wr.alloc (.cells #[.string nm, .slice aj ln cj, .int .i64 (f.safe : Int)] 81) = Z at *
            refine wp_region_lx (fun w' => Below Z.drew.heap.size Z.drew w') [16] 17 (by kernel_rfl) (by kernel_rfl) ?_
            have hbX : Below wr.heap.size wr Z.drew := hbe.drew
            have hfX : Z.drew.heap[bf]? = some (.cells #[.string nm, .slice aj ln cj, .int .i64 (f.safe : Int)] 81 (0, 0)) := hfil
            clear hbe hfil
            generalize Z.drew = X at *
            have hRX := hRi.below hbX
            have hRjX := hRj.carry (Nat.le_refl _) hbX
            have Q0 := (hbX.cell (World.block_lt_of_cell? _ _ q0)).trans q0
            have hcF : ∀ w', Below X.heap.size X w' → w'.cell? ⟨rd, 0, none⟩ = some (.slice (some ⟨g0, 0, none⟩) N cap0) := fun w' hb => (hb.cell (World.block_lt_of_cell? _ _ Q0)).trans Q0
            have hf1 : ∀ w', Below X.heap.size X w' → w'.cell? ⟨bf, 1, none⟩ = some (.slice aj ln cj) := fun w' hb => by rw [cell_of_block (box_below hfX hb)]; rfl
            have hf2 : ∀ w', Below X.heap.size X w' → w'.cell? ⟨bf, 2, none⟩ = some (.int .i64 (f.safe : Int)) := fun w' hb => by rw [cell_of_block (box_below hfX hb)]; rfl
            have hcj := hRj.cap
            have hlk1 : (lk : Int) ≤ (cj : Int) := Int.ofNat_le.2 (Nat.le_trans hlkl hcj)
            have hlk0 : (0 : Int) ≤ (lk : Int) := Int.natCast_nonneg lk
            clear Q0 q0 q1 q2 qs
            have HSX : Below X.heap.size X X := Below.refl _ _
            refine lx_rd 0 ?vma0 (by kernel_rfl) (fun _ _ d _ _ h => by cases d <;> exact h) (by kernel_rfl) HSX rfl rfl rfl (fun w' hS => ?hma0) ?_
            case hma0 => first | (go_simp; rfl) | go_simp
            simp only [List.setIfInBounds_toArray, List.set_cons_zero, List.set_cons_succ]
            refine lx_rd 1 ?vma1 (by kernel_rfl) (fun _ _ d _ _ h => by cases d <;> exact h) (by kernel_rfl) HSX rfl rfl rfl (fun w' hS => ?hma1) ?_
            case hma1 => first | (go_simp; rfl) | go_simp
            simp only [List.setIfInBounds_toArray, List.set_cons_zero, List.set_cons_succ]
            refine lx_rd 2 ?vma2 (by kernel_rfl) (fun _ _ d _ _ h => by cases d <;> exact h) (by kernel_rfl) HSX rfl rfl rfl (fun w' hS => ?hma2) ?_
            case hma2 => first | (go_simp; rfl) | go_simp
            simp only [List.setIfInBounds_toArray, List.set_cons_zero, List.set_cons_succ]
            refine lx_rd 3 (.slice (some ⟨g0, 0, none⟩) N cap0) (by kernel_rfl) (fun _ _ d _ _ h => by cases d <;> exact h) (by kernel_rfl) HSX rfl rfl rfl (fun w' hS => ?hma3) ?_
            case hma3 => have q := hcF _ hS; first | (go_simp; rfl) | go_simp
            simp only [List.setIfInBounds_toArray, List.set_cons_zero, List.set_cons_succ]
            refine lx_rd 4 ?vma4 (by kernel_rfl) (fun _ _ d _ _ h => by cases d <;> exact h) (by kernel_rfl) HSX rfl rfl rfl (fun w' hS => ?hma4) ?_
            case hma4 => first | (go_simp; rfl) | go_simp
            simp only [List.setIfInBounds_toArray, List.set_cons_zero, List.set_cons_succ]
            refine lx_rd 6 ?vma6 (by kernel_rfl) (fun _ _ d _ _ h => by cases d <;> exact h) (by kernel_rfl) HSX rfl rfl rfl (fun w' hS => ?hma6) ?_
            case hma6 => first | (go_simp; rfl) | go_simp
            simp only [List.setIfInBounds_toArray, List.set_cons_zero, List.set_cons_succ]
            refine lx_rd 7 (.slice aj ln cj) (by kernel_rfl) (fun _ _ d _ _ h => by cases d <;> exact h) (by kernel_rfl) HSX rfl rfl rfl (fun w' hS => ?hma7) ?_
            case hma7 => have q := hf1 _ hS; first | (go_simp; rfl) | go_simp
            simp only [List.setIfInBounds_toArray, List.set_cons_zero, List.set_cons_succ]
            refine lx_rd 8 ?vma8 (by kernel_rfl) (fun _ _ d _ _ h => by cases d <;> exact h) (by kernel_rfl) HSX rfl rfl rfl (fun w' hS => ?hma8) ?_
            case hma8 => first | (go_simp; rfl) | go_simp
            simp only [List.setIfInBounds_toArray, List.set_cons_zero, List.set_cons_succ]
            refine lx_rd 9 (.int .i64 (f.safe : Int)) (by kernel_rfl) (fun _ _ d _ _ h => by cases d <;> exact h) (by kernel_rfl) HSX rfl rfl rfl (fun w' hS => ?hma9) ?_
            case hma9 => have q := hf2 _ hS; first | (go_simp; rfl) | go_simp
            simp only [List.setIfInBounds_toArray, List.set_cons_zero, List.set_cons_succ]
            refine lx_rd 10 ?vma10 (by kernel_rfl) (fun _ _ d _ _ h => by cases d <;> exact h) (by kernel_rfl) HSX rfl rfl rfl (fun w' hS => ?hma10) ?_
            case hma10 => first | (go_simp; rfl) | go_simp
            simp only [List.setIfInBounds_toArray, List.set_cons_zero, List.set_cons_succ]
            refine lx_rd 11 (.int .i64 (lk : Int)) (by kernel_rfl) (fun _ _ d _ _ h => by cases d <;> exact h) (by kernel_rfl) HSX rfl rfl rfl (fun w' hS => ?hma11) ?_
            case hma11 => have hq1 := Hwk.out; have hq2 := Hwk2.out; first | (go_simp; rfl) | go_simp
            simp only [List.setIfInBounds_toArray, List.set_cons_zero, List.set_cons_succ]
            refine lx_rd 12 (.slice aj lk cj) (by kernel_rfl) (fun _ _ d _ _ h => by cases d <;> exact h) (by kernel_rfl) HSX rfl rfl rfl (fun w' hS => ?hma12) ?_
            case hma12 => first | (go_simp; rfl) | go_simp
            simp only [List.setIfInBounds_toArray, List.set_cons_zero, List.set_cons_succ]
            have hX0 : Below X.heap.size X (X.alloc (.cells #[] 5)) := (Below.refl _ _).alloc (Nat.le_refl _) _
            have hemp : (X.alloc (.cells #[] 5)).ownsRow X.heap.size 5 1 (.slice (some ⟨X.heap.size, 0, none⟩) 0 0) 0 (bc []) := World.ownsRow_made X #[] 0 (Nat.le_refl _) (by unfold maxLen; omega) rfl
            refine lx_one 5 (by kernel_rfl) (stepT_val (w' := X.alloc (.cells #[] 5)) (.slice (some ⟨X.heap.size, 0, none⟩) 0 0) rfl rfl rfl ?r5a (fun _ => hX0) ?_)
            case r5a => first | (go_simp; rfl) | go_simp
            simp only [List.setIfInBounds_toArray, List.set_cons_zero, List.set_cons_succ]
            obtain ⟨v5, w5, hrun5, o5, hb5⟩ := run_appJ 31 hemp ((hRjX.takeK hlkl).carry (Nat.le_refl _) hX0) (by omega) hX0.size
            have hb5' := hX0.trans hb5
            refine lx_one 13 (by kernel_rfl) (stepT_val (w' := w5) v5 rfl rfl rfl (exec_appJ rfl rfl rfl hrun5) (fun _ => hb5') ?_)
            simp only [List.setIfInBounds_toArray, List.set_cons_zero, List.set_cons_succ]
            rw [Nat.zero_add, List.nil_append] at o5
            obtain ⟨a6, c6, rfl, hn6⟩ := Rd.ofRowE o5
            have hbl : (f.b.take lk).length = lk := by rw [List.length_take, HLn.out]; omega
            have o6' : w5.ownsRow X.heap.size 5 1 (.slice a6 lk c6) (f.b.take lk).length (bc (f.b.take lk)) := by rw [hbl]; exact o5
            obtain ⟨g, cap, r0, hcap, ⟨u, r1⟩, r2, t0, t1, t2, t3, hRp⟩ := hRX.setBS hb5' (by have h := Hix.out; rw [Hki.out] at h; exact h) o6' hgN
            have R0 := hcF _ hb5'
            rw [r0] at R0
            have hgg : g = g0 := by injection R0 with h; injection h with h _ _; injection h with h; injection h
            have hcc : cap = cap0 := by injection R0 with h; injection h
            rw [hgg] at r0 r1 r2 t0 t1 t2 t3 hRp
            rw [HNf.out, hcc] at t0
            rw [Hput.out] at hRp
            clear R0 hgg hcc
            refine lx_one 14 (by kernel_rfl) (stepT_val (w' := w5) (.pointer (some ⟨g0, i * 3, none⟩)) rfl rfl rfl ?r14a (fun _ => hb5') ?_)
            case r14a => first | (go_simp; rfl) | go_simp
            simp only [List.setIfInBounds_toArray, List.set_cons_zero, List.set_cons_succ]
            refine lx_one 15 (by kernel_rfl) (stepT_val (w' := w5) (.pointer (some ⟨g0, i * 3 + 1, none⟩)) rfl rfl rfl ?r15a (fun _ => hb5') ?_)
            case r15a => first | (go_simp; rfl) | go_simp
            simp only [List.setIfInBounds_toArray, List.set_cons_zero, List.set_cons_succ]
            refine lx_one 16 (by kernel_rfl) (stepT_store (w' := w5.setCell ⟨g0, i * 3 + 1, none⟩ (.slice a6 lk c6)) rfl rfl rfl ?r16a (fun h => by cases h) ?_)
            case r16a => first | (go_simp; rfl) | go_simp
            refine lx_nil (by kernel_rfl) ?_
            generalize w5.setCell ⟨g0, i * 3 + 1, none⟩ (.slice a6 lk c6) = Y at *
            clear r0 r1 r2 hcF hf1 hf2 hlenB
            go_upto_region 12 with fail
            have hlenC := fun w => len_slice a6 lk c6 31 3 w Try.underlying31
            refine wp_region_lx (fun w' => w' = Y.drew) [16] 17 (by kernel_rfl) (by kernel_rfl) ?_
            have hRp2 : Rp X Gi rd { k with fs := dn ++ (nm, ⟨f.b.take lk, lk⟩) :: post } (Y.drew.setCell ⟨g0, i * 3 + 2, none⟩ (.int .i64 (lk : Int))) := hRp.then (Below.refl _ _).drew
            have T0 : Y.drew.cell? ⟨rd, 0, none⟩ = some (.slice (some ⟨g0, 0, none⟩) N cap0) := t0
            have T1 : Y.drew.cell? ⟨g0, i * 3 + 1, none⟩ = some (.slice a6 lk c6) := t1
            have T2 : Y.drew.cell? ⟨g0, i * 3 + 2, none⟩ = some (.int .i64 (f.safe : Int)) := t2
            have T3 : Y.drew.frozen? ⟨g0, i * 3 + 2, none⟩ = false := t3
            clear t0 t1 t2 t3 hRp
            generalize Y.drew = X2 at *
            have HSwa : X2 = X2 := rfl
            refine lx_rd 0 ?vwa0 (by kernel_rfl) (fun _ _ d _ _ h => by cases d <;> exact h) (by kernel_rfl) HSwa rfl rfl rfl (fun w' hS => ?hwa0) ?_
            case hwa0 => first | (go_simp; rfl) | go_simp
            simp only [List.setIfInBounds_toArray, List.set_cons_zero, List.set_cons_succ]
            refine lx_rd 1 ?vwa1 (by kernel_rfl) (fun _ _ d _ _ h => by cases d <;> exact h) (by kernel_rfl) HSwa rfl rfl rfl (fun w' hS => ?hwa1) ?_
            case hwa1 => first | (go_simp; rfl) | go_simp
            simp only [List.setIfInBounds_toArray, List.set_cons_zero, List.set_cons_succ]
            refine lx_rd 2 ?vwa2 (by kernel_rfl) (fun _ _ d _ _ h => by cases d <;> exact h) (by kernel_rfl) HSwa rfl rfl rfl (fun w' hS => ?hwa2) ?_
            case hwa2 => first | (go_simp; rfl) | go_simp
            simp only [List.setIfInBounds_toArray, List.set_cons_zero, List.set_cons_succ]
            refine lx_rd 3 (.slice (some ⟨g0, 0, none⟩) N cap0) (by kernel_rfl) (fun _ _ d _ _ h => by cases d <;> exact h) (by kernel_rfl) HSwa rfl rfl rfl (fun w' hS => ?hwa3) ?_
            case hwa3 => subst hS; first | (go_simp; rfl) | go_simp
            simp only [List.setIfInBounds_toArray, List.set_cons_zero, List.set_cons_succ]
            refine lx_rd 4 ?vwa4 (by kernel_rfl) (fun _ _ d _ _ h => by cases d <;> exact h) (by kernel_rfl) HSwa rfl rfl rfl (fun w' hS => ?hwa4) ?_
            case hwa4 => first | (go_simp; rfl) | go_simp
            simp only [List.setIfInBounds_toArray, List.set_cons_zero, List.set_cons_succ]
            refine lx_rd 5 ?vwa5 (by kernel_rfl) (fun _ _ d _ _ h => by cases d <;> exact h) (by kernel_rfl) HSwa rfl rfl rfl (fun w' hS => ?hwa5) ?_
            case hwa5 => first | (go_simp; rfl) | go_simp
            simp only [List.setIfInBounds_toArray, List.set_cons_zero, List.set_cons_succ]
            refine lx_rd 6 ?vwa6 (by kernel_rfl) (fun _ _ d _ _ h => by cases d <;> exact h) (by kernel_rfl) HSwa rfl rfl rfl (fun w' hS => ?hwa6) ?_
            case hwa6 => first | (go_simp; rfl) | go_simp
            simp only [List.setIfInBounds_toArray, List.set_cons_zero, List.set_cons_succ]
            refine lx_rd 7 ?vwa7 (by kernel_rfl) (fun _ _ d _ _ h => by cases d <;> exact h) (by kernel_rfl) HSwa rfl rfl rfl (fun w' hS => ?hwa7) ?_
            case hwa7 => first | (go_simp; rfl) | go_simp
            simp only [List.setIfInBounds_toArray, List.set_cons_zero, List.set_cons_succ]
            refine lx_rd 8 (.slice (some ⟨g0, 0, none⟩) N cap0) (by kernel_rfl) (fun _ _ d _ _ h => by cases d <;> exact h) (by kernel_rfl) HSwa rfl rfl rfl (fun w' hS => ?hwa8) ?_
            case hwa8 => subst hS; first | (go_simp; rfl) | go_simp
            simp only [List.setIfInBounds_toArray, List.set_cons_zero, List.set_cons_succ]
            refine lx_rd 9 ?vwa9 (by kernel_rfl) (fun _ _ d _ _ h => by cases d <;> exact h) (by kernel_rfl) HSwa rfl rfl rfl (fun w' hS => ?hwa9) ?_
            case hwa9 => first | (go_simp; rfl) | go_simp
            simp only [List.setIfInBounds_toArray, List.set_cons_zero, List.set_cons_succ]
            refine lx_rd 10 (.pointer (some ⟨g0, i * 3, none⟩)) (by kernel_rfl) (fun _ _ d _ _ h => by cases d <;> exact h) (by kernel_rfl) HSwa rfl rfl rfl (fun w' hS => ?hwa10) ?_
            case hwa10 => first | (go_simp; rfl) | go_simp
            simp only [List.setIfInBounds_toArray, List.set_cons_zero, List.set_cons_succ]
            refine lx_rd 11 (.pointer (some ⟨g0, i * 3 + 1, none⟩)) (by kernel_rfl) (fun _ _ d _ _ h => by cases d <;> exact h) (by kernel_rfl) HSwa rfl rfl rfl (fun w' hS => ?hwa11) ?_
            case hwa11 => first | (go_simp; rfl) | go_simp
            simp only [List.setIfInBounds_toArray, List.set_cons_zero, List.set_cons_succ]
            refine lx_rd 12 (.slice a6 lk c6) (by kernel_rfl) (fun _ _ d _ _ h => by cases d <;> exact h) (by kernel_rfl) HSwa rfl rfl rfl (fun w' hS => ?hwa12) ?_
            case hwa12 => subst hS; first | (go_simp; rfl) | go_simp
            simp only [List.setIfInBounds_toArray, List.set_cons_zero, List.set_cons_succ]
            refine lx_rd 13 (.int .i64 lk) (by kernel_rfl) (fun _ _ d _ _ h => by cases d <;> exact h) (by kernel_rfl) HSwa rfl rfl rfl (fun w' hS => ?hwa13) ?_
            case hwa13 => first | (go_simp; rfl) | go_simp
            simp only [List.setIfInBounds_toArray, List.set_cons_zero, List.set_cons_succ]
            refine lx_one 14 (by kernel_rfl) (stepT_val (w' := X2) (.pointer (some ⟨g0, i * 3, none⟩)) rfl rfl rfl ?r14wa (fun _ => rfl) ?_)
            case r14wa => first | (go_simp; rfl) | go_simp
            simp only [List.setIfInBounds_toArray, List.set_cons_zero, List.set_cons_succ]
            refine lx_one 15 (by kernel_rfl) (stepT_val (w' := X2) (.pointer (some ⟨g0, i * 3 + 2, none⟩)) rfl rfl rfl ?r15wa (fun _ => rfl) ?_)
            case r15wa => first | (go_simp; rfl) | go_simp
            simp only [List.setIfInBounds_toArray, List.set_cons_zero, List.set_cons_succ]
            refine lx_one 16 (by kernel_rfl) (stepT_store (w' := X2.setCell ⟨g0, i * 3 + 2, none⟩ (.int .i64 (lk : Int))) rfl rfl rfl ?r16wa (fun h => by cases h) ?_)
            case r16wa => first | (go_simp; rfl) | go_simp
            refine lx_nil (by kernel_rfl) ?_
            go_wp2
            refine ⟨⟨i + 1, n + 1, dn ++ [(nm, ⟨f.b.take lk, lk⟩)], post, by go_num, by go_num, by omega, by simp [hdn], ?_, ?_, ?_⟩, by simp [intOf]; omega⟩
            · show (dn ++ [(nm, (⟨f.b.take lk, lk⟩ : Fle))]) ++ restL post (keep.drop (n + 1)) = R
              rw [← hHR.out, HRF.out, List.append_assoc]
              rfl
            · show List.map Prod.fst _ = _
              rw [← HNm.out]; simp
            · rw [List.append_assoc]
              exact Rp.next hki hGi (Rp.next (Keep.ofBelow hbX) (fun i hi => Or.inl hi) hRp2)
          · rw [← hzv] at hHR
            have hRF0 := rest_zero f (keep.getD n 0) (by rw [hzv]; exact Int.max_eq_right (Int.not_lt.1 hzp))
            obtain ⟨lk, HL⟩ : ∃ lk : Nat, Hid (lk = f.safe) := ⟨f.safe, rfl⟩
            have HRF : Hid (restF f (keep.getD n 0) = ⟨f.b.take lk, lk⟩) := by show _ = _; rw [HL.out]; exact hRF0
            have hlkl : lk ≤ ln := by rw [HL.out]; exact hsf
            have hlk9 : lk ≤ 16777216 := Nat.le_trans hlkl hfu
            have hwk0 : wrap64 (lk : Int) = (lk : Int) := by clear hwm; unfold wrap64; omega
            have hwk : wrap64 (f.safe : Int) = (lk : Int) := by rw [← HL.out]; exact hwk0
            have hwk2 : IntKind.i64.wrap (f.safe : Int) = (lk : Int) := by have h9 := HL.out; clear hwm hwk hwk0; rw [IntKind.wrap_i64]; omega
            have Hwk : Hid (wrap64 (f.safe : Int) = (lk : Int)) := hwk
            have Hwk2 : Hid (IntKind.i64.wrap (f.safe : Int) = (lk : Int)) := hwk2
            clear hRF0 hwk hwk2 hwk0
            have hgN := HgC.out lk lk (by rw [HLn.out]; exact hlkl) (Nat.le_refl _)
            go_upto_region 11 with fail
            clear hwm
            have hbe := hbw (.cells #[.string nm, .slice aj ln cj, .int .i64 (f.safe : Int)] 81)
            have hfil := alloc_at wr (.cells #[.string nm, .slice aj ln cj, .int .i64 (f.safe : Int)] 81)
            obtain ⟨bf, hbf⟩ : ∃ bf, wr.heap.size = bf := ⟨_, rfl⟩
            rw [hbf] at hfil ⊢
            generalize wr.alloc (.cells #[.string nm, .slice aj ln cj, .int .i64 (f.safe : Int)] 81) = Z at *
            refine wp_region_lx (fun w' => Below Z.drew.heap.size Z.drew w') [16] 17 (by kernel_rfl) (by kernel_rfl) ?_
            have hbX : Below wr.heap.size wr Z.drew := hbe.drew
            have hfX : Z.drew.heap[bf]? = some (.cells #[.string nm, .slice aj ln cj, .int .i64 (f.safe : Int)] 81 (0, 0)) := hfil
            clear hbe hfil
            generalize Z.drew = X at *
            have hRX := hRi.below hbX
            have hRjX := hRj.carry (Nat.le_refl _) hbX
            have Q0 := (hbX.cell (World.block_lt_of_cell? _ _ q0)).trans q0
            have hcF : ∀ w', Below X.heap.size X w' → w'.cell? ⟨rd, 0, none⟩ = some (.slice (some ⟨g0, 0, none⟩) N cap0) := fun w' hb => (hb.cell (World.block_lt_of_cell? _ _ Q0)).trans Q0
            have hf1 : ∀ w', Below X.heap.size X w' → w'.cell? ⟨bf, 1, none⟩ = some (.slice aj ln cj) := fun w' hb => by rw [cell_of_block (box_below hfX hb)]; rfl
            have hf2 : ∀ w', Below X.heap.size X w' → w'.cell? ⟨bf, 2, none⟩ = some (.int .i64 (f.safe : Int)) := fun w' hb => by rw [cell_of_block (box_below hfX hb)]; rfl
            have hcj := hRj.cap
            have hlk1 : (lk : Int) ≤ (cj : Int) := Int.ofNat_le.2 (Nat.le_trans hlkl hcj)
            have hlk0 : (0 : Int) ≤ (lk : Int) := Int.natCast_nonneg lk
            clear Q0 q0 q1 q2 qs
            have HSX : Below X.heap.size X X := Below.refl _ _
            refine lx_rd 0 ?vmb0 (by kernel_rfl) (fun _ _ d _ _ h => by cases d <;> exact h) (by kernel_rfl) HSX rfl rfl rfl (fun w' hS => ?hmb0) ?_
            case hmb0 => first | (go_simp; rfl) | go_simp
            simp only [List.setIfInBounds_toArray, List.set_cons_zero, List.set_cons_succ]
            refine lx_rd 1 ?vmb1 (by kernel_rfl) (fun _ _ d _ _ h => by cases d <;> exact h) (by kernel_rfl) HSX rfl rfl rfl (fun w' hS => ?hmb1) ?_
            case hmb1 => first | (go_simp; rfl) | go_simp
            simp only [List.setIfInBounds_toArray, List.set_cons_zero, List.set_cons_succ]
            refine lx_rd 2 ?vmb2 (by kernel_rfl) (fun _ _ d _ _ h => by cases d <;> exact h) (by kernel_rfl) HSX rfl rfl rfl (fun w' hS => ?hmb2) ?_
            case hmb2 => first | (go_simp; rfl) | go_simp
            simp only [List.setIfInBounds_toArray, List.set_cons_zero, List.set_cons_succ]
            refine lx_rd 3 (.slice (some ⟨g0, 0, none⟩) N cap0) (by kernel_rfl) (fun _ _ d _ _ h => by cases d <;> exact h) (by kernel_rfl) HSX rfl rfl rfl (fun w' hS => ?hmb3) ?_
            case hmb3 => have q := hcF _ hS; first | (go_simp; rfl) | go_simp
            simp only [List.setIfInBounds_toArray, List.set_cons_zero, List.set_cons_succ]
            refine lx_rd 4 ?vmb4 (by kernel_rfl) (fun _ _ d _ _ h => by cases d <;> exact h) (by kernel_rfl) HSX rfl rfl rfl (fun w' hS => ?hmb4) ?_
            case hmb4 => first | (go_simp; rfl) | go_simp
            simp only [List.setIfInBounds_toArray, List.set_cons_zero, List.set_cons_succ]
            refine lx_rd 6 ?vmb6 (by kernel_rfl) (fun _ _ d _ _ h => by cases d <;> exact h) (by kernel_rfl) HSX rfl rfl rfl (fun w' hS => ?hmb6) ?_
            case hmb6 => first | (go_simp; rfl) | go_simp
            simp only [List.setIfInBounds_toArray, List.set_cons_zero, List.set_cons_succ]
            refine lx_rd 7 (.slice aj ln cj) (by kernel_rfl) (fun _ _ d _ _ h => by cases d <;> exact h) (by kernel_rfl) HSX rfl rfl rfl (fun w' hS => ?hmb7) ?_
            case hmb7 => have q := hf1 _ hS; first | (go_simp; rfl) | go_simp
            simp only [List.setIfInBounds_toArray, List.set_cons_zero, List.set_cons_succ]
            refine lx_rd 8 ?vmb8 (by kernel_rfl) (fun _ _ d _ _ h => by cases d <;> exact h) (by kernel_rfl) HSX rfl rfl rfl (fun w' hS => ?hmb8) ?_
            case hmb8 => first | (go_simp; rfl) | go_simp
            simp only [List.setIfInBounds_toArray, List.set_cons_zero, List.set_cons_succ]
            refine lx_rd 9 (.int .i64 (f.safe : Int)) (by kernel_rfl) (fun _ _ d _ _ h => by cases d <;> exact h) (by kernel_rfl) HSX rfl rfl rfl (fun w' hS => ?hmb9) ?_
            case hmb9 => have q := hf2 _ hS; first | (go_simp; rfl) | go_simp
            simp only [List.setIfInBounds_toArray, List.set_cons_zero, List.set_cons_succ]
            refine lx_rd 10 ?vmb10 (by kernel_rfl) (fun _ _ d _ _ h => by cases d <;> exact h) (by kernel_rfl) HSX rfl rfl rfl (fun w' hS => ?hmb10) ?_
            case hmb10 => first | (go_simp; rfl) | go_simp
            simp only [List.setIfInBounds_toArray, List.set_cons_zero, List.set_cons_succ]
            refine lx_rd 11 (.int .i64 (lk : Int)) (by kernel_rfl) (fun _ _ d _ _ h => by cases d <;> exact h) (by kernel_rfl) HSX rfl rfl rfl (fun w' hS => ?hmb11) ?_
            case hmb11 => have hq1 := Hwk.out; have hq2 := Hwk2.out; first | (go_simp; rfl) | go_simp
            simp only [List.setIfInBounds_toArray, List.set_cons_zero, List.set_cons_succ]
            refine lx_rd 12 (.slice aj lk cj) (by kernel_rfl) (fun _ _ d _ _ h => by cases d <;> exact h) (by kernel_rfl) HSX rfl rfl rfl (fun w' hS => ?hmb12) ?_
            case hmb12 => first | (go_simp; rfl) | go_simp
            simp only [List.setIfInBounds_toArray, List.set_cons_zero, List.set_cons_succ]
            have hX0 : Below X.heap.size X (X.alloc (.cells #[] 5)) := (Below.refl _ _).alloc (Nat.le_refl _) _
            have hemp : (X.alloc (.cells #[] 5)).ownsRow X.heap.size 5 1 (.slice (some ⟨X.heap.size, 0, none⟩) 0 0) 0 (bc []) := World.ownsRow_made X #[] 0 (Nat.le_refl _) (by unfold maxLen; omega) rfl
            refine lx_one 5 (by kernel_rfl) (stepT_val (w' := X.alloc (.cells #[] 5)) (.slice (some ⟨X.heap.size, 0, none⟩) 0 0) rfl rfl rfl ?r5b (fun _ => hX0) ?_)
            case r5b => first | (go_simp; rfl) | go_simp
            simp only [List.setIfInBounds_toArray, List.set_cons_zero, List.set_cons_succ]
            obtain ⟨v5, w5, hrun5, o5, hb5⟩ := run_appJ 31 hemp ((hRjX.takeK hlkl).carry (Nat.le_refl _) hX0) (by omega) hX0.size
            have hb5' := hX0.trans hb5
            refine lx_one 13 (by kernel_rfl) (stepT_val (w' := w5) v5 rfl rfl rfl (exec_appJ rfl rfl rfl hrun5) (fun _ => hb5') ?_)
            simp only [List.setIfInBounds_toArray, List.set_cons_zero, List.set_cons_succ]
            rw [Nat.zero_add, List.nil_append] at o5
            obtain ⟨a6, c6, rfl, hn6⟩ := Rd.ofRowE o5
            have hbl : (f.b.take lk).length = lk := by rw [List.length_take, HLn.out]; omega
            have o6' : w5.ownsRow X.heap.size 5 1 (.slice a6 lk c6) (f.b.take lk).length (bc (f.b.take lk)) := by rw [hbl]; exact o5
            obtain ⟨g, cap, r0, hcap, ⟨u, r1⟩, r2, t0, t1, t2, t3, hRp⟩ := hRX.setBS hb5' (by have h := Hix.out; rw [Hki.out] at h; exact h) o6' hgN
            have R0 := hcF _ hb5'
            rw [r0] at R0
            have hgg : g = g0 := by injection R0 with h; injection h with h _ _; injection h with h; injection h
            have hcc : cap = cap0 := by injection R0 with h; injection h
            rw [hgg] at r0 r1 r2 t0 t1 t2 t3 hRp
            rw [HNf.out, hcc] at t0
            rw [Hput.out] at hRp
            clear R0 hgg hcc
            refine lx_one 14 (by kernel_rfl) (stepT_val (w' := w5) (.pointer (some ⟨g0, i * 3, none⟩)) rfl rfl rfl ?r14b (fun _ => hb5') ?_)
            case r14b => first | (go_simp; rfl) | go_simp
            simp only [List.setIfInBounds_toArray, List.set_cons_zero, List.set_cons_succ]
            refine lx_one 15 (by kernel_rfl) (stepT_val (w' := w5) (.pointer (some ⟨g0, i * 3 + 1, none⟩)) rfl rfl rfl ?r15b (fun _ => hb5') ?_)
            case r15b => first | (go_simp; rfl) | go_simp
            simp only [List.setIfInBounds_toArray, List.set_cons_zero, List.set_cons_succ]
            refine lx_one 16 (by kernel_rfl) (stepT_store (w' := w5.setCell ⟨g0, i * 3 + 1, none⟩ (.slice a6 lk c6)) rfl rfl rfl ?r16b (fun h => by cases h) ?_)
            case r16b => first | (go_simp; rfl) | go_simp
            refine lx_nil (by kernel_rfl) ?_
            generalize w5.setCell ⟨g0, i * 3 + 1, none⟩ (.slice a6 lk c6) = Y at *
            clear r0 r1 r2 hcF hf1 hf2 hlenB
            go_upto_region 12 with fail
            have hlenC := fun w => len_slice a6 lk c6 31 3 w Try.underlying31
            refine wp_region_lx (fun w' => w' = Y.drew) [16] 17 (by kernel_rfl) (by kernel_rfl) ?_
            have hRp2 : Rp X Gi rd { k with fs := dn ++ (nm, ⟨f.b.take lk, lk⟩) :: post } (Y.drew.setCell ⟨g0, i * 3 + 2, none⟩ (.int .i64 (lk : Int))) := hRp.then (Below.refl _ _).drew
            have T0 : Y.drew.cell? ⟨rd, 0, none⟩ = some (.slice (some ⟨g0, 0, none⟩) N cap0) := t0
            have T1 : Y.drew.cell? ⟨g0, i * 3 + 1, none⟩ = some (.slice a6 lk c6) := t1
            have T2 : Y.drew.cell? ⟨g0, i * 3 + 2, none⟩ = some (.int .i64 (f.safe : Int)) := t2
            have T3 : Y.drew.frozen? ⟨g0, i * 3 + 2, none⟩ = false := t3
            clear t0 t1 t2 t3 hRp
            generalize Y.drew = X2 at *
            have HSwb : X2 = X2 := rfl
            refine lx_rd 0 ?vwb0 (by kernel_rfl) (fun _ _ d _ _ h => by cases d <;> exact h) (by kernel_rfl) HSwb rfl rfl rfl (fun w' hS => ?hwb0) ?_
            case hwb0 => first | (go_simp; rfl) | go_simp
            simp only [List.setIfInBounds_toArray, List.set_cons_zero, List.set_cons_succ]
            refine lx_rd 1 ?vwb1 (by kernel_rfl) (fun _ _ d _ _ h => by cases d <;> exact h) (by kernel_rfl) HSwb rfl rfl rfl (fun w' hS => ?hwb1) ?_
            case hwb1 => first | (go_simp; rfl) | go_simp
            simp only [List.setIfInBounds_toArray, List.set_cons_zero, List.set_cons_succ]
            refine lx_rd 2 ?vwb2 (by kernel_rfl) (fun _ _ d _ _ h => by cases d <;> exact h) (by kernel_rfl) HSwb rfl rfl rfl (fun w' hS => ?hwb2) ?_
            case hwb2 => first | (go_simp; rfl) | go_simp
            simp only [List.setIfInBounds_toArray, List.set_cons_zero, List.set_cons_succ]
            refine lx_rd 3 (.slice (some ⟨g0, 0, none⟩) N cap0) (by kernel_rfl) (fun _ _ d _ _ h => by cases d <;> exact h) (by kernel_rfl) HSwb rfl rfl rfl (fun w' hS => ?hwb3) ?_
            case hwb3 => subst hS; first | (go_simp; rfl) | go_simp
            simp only [List.setIfInBounds_toArray, List.set_cons_zero, List.set_cons_succ]
            refine lx_rd 4 ?vwb4 (by kernel_rfl) (fun _ _ d _ _ h => by cases d <;> exact h) (by kernel_rfl) HSwb rfl rfl rfl (fun w' hS => ?hwb4) ?_
            case hwb4 => first | (go_simp; rfl) | go_simp
            simp only [List.setIfInBounds_toArray, List.set_cons_zero, List.set_cons_succ]
            refine lx_rd 5 ?vwb5 (by kernel_rfl) (fun _ _ d _ _ h => by cases d <;> exact h) (by kernel_rfl) HSwb rfl rfl rfl (fun w' hS => ?hwb5) ?_
            case hwb5 => first | (go_simp; rfl) | go_simp
            simp only [List.setIfInBounds_toArray, List.set_cons_zero, List.set_cons_succ]
            refine lx_rd 6 ?vwb6 (by kernel_rfl) (fun _ _ d _ _ h => by cases d <;> exact h) (by kernel_rfl) HSwb rfl rfl rfl (fun w' hS => ?hwb6) ?_
            case hwb6 => first | (go_simp; rfl) | go_simp
            simp only [List.setIfInBounds_toArray, List.set_cons_zero, List.set_cons_succ]
            refine lx_rd 7 ?vwb7 (by kernel_rfl) (fun _ _ d _ _ h => by cases d <;> exact h) (by kernel_rfl) HSwb rfl rfl rfl (fun w' hS => ?hwb7) ?_
            case hwb7 => first | (go_simp; rfl) | go_simp
            simp only [List.setIfInBounds_toArray, List.set_cons_zero, List.set_cons_succ]
            refine lx_rd 8 (.slice (some ⟨g0, 0, none⟩) N cap0) (by kernel_rfl) (fun _ _ d _ _ h => by cases d <;> exact h) (by kernel_rfl) HSwb rfl rfl rfl (fun w' hS => ?hwb8) ?_
            case hwb8 => subst hS; first | (go_simp; rfl) | go_simp
            simp only [List.setIfInBounds_toArray, List.set_cons_zero, List.set_cons_succ]
            refine lx_rd 9 ?vwb9 (by kernel_rfl) (fun _ _ d _ _ h => by cases d <;> exact h) (by kernel_rfl) HSwb rfl rfl rfl (fun w' hS => ?hwb9) ?_
            case hwb9 => first | (go_simp; rfl) | go_simp
            simp only [List.setIfInBounds_toArray, List.set_cons_zero, List.set_cons_succ]
            refine lx_rd 10 (.pointer (some ⟨g0, i * 3, none⟩)) (by kernel_rfl) (fun _ _ d _ _ h => by cases d <;> exact h) (by kernel_rfl) HSwb rfl rfl rfl (fun w' hS => ?hwb10) ?_
            case hwb10 => first | (go_simp; rfl) | go_simp
            simp only [List.setIfInBounds_toArray, List.set_cons_zero, List.set_cons_succ]
            refine lx_rd 11 (.pointer (some ⟨g0, i * 3 + 1, none⟩)) (by kernel_rfl) (fun _ _ d _ _ h => by cases d <;> exact h) (by kernel_rfl) HSwb rfl rfl rfl (fun w' hS => ?hwb11) ?_
            case hwb11 => first | (go_simp; rfl) | go_simp
            simp only [List.setIfInBounds_toArray, List.set_cons_zero, List.set_cons_succ]
            refine lx_rd 12 (.slice a6 lk c6) (by kernel_rfl) (fun _ _ d _ _ h => by cases d <;> exact h) (by kernel_rfl) HSwb rfl rfl rfl (fun w' hS => ?hwb12) ?_
            case hwb12 => subst hS; first | (go_simp; rfl) | go_simp
            simp only [List.setIfInBounds_toArray, List.set_cons_zero, List.set_cons_succ]
            refine lx_rd 13 (.int .i64 lk) (by kernel_rfl) (fun _ _ d _ _ h => by cases d <;> exact h) (by kernel_rfl) HSwb rfl rfl rfl (fun w' hS => ?hwb13) ?_
            case hwb13 => first | (go_simp; rfl) | go_simp
            simp only [List.setIfInBounds_toArray, List.set_cons_zero, List.set_cons_succ]
            refine lx_one 14 (by kernel_rfl) (stepT_val (w' := X2) (.pointer (some ⟨g0, i * 3, none⟩)) rfl rfl rfl ?r14wb (fun _ => rfl) ?_)
            case r14wb => first | (go_simp; rfl) | go_simp
            simp only [List.setIfInBounds_toArray, List.set_cons_zero, List.set_cons_succ]
            refine lx_one 15 (by kernel_rfl) (stepT_val (w' := X2) (.pointer (some ⟨g0, i * 3 + 2, none⟩)) rfl rfl rfl ?r15wb (fun _ => rfl) ?_)
            case r15wb => first | (go_simp; rfl) | go_simp
            simp only [List.setIfInBounds_toArray, List.set_cons_zero, List.set_cons_succ]
            refine lx_one 16 (by kernel_rfl) (stepT_store (w' := X2.setCell ⟨g0, i * 3 + 2, none⟩ (.int .i64 (lk : Int))) rfl rfl rfl ?r16wb (fun h => by cases h) ?_)
            case r16wb => first | (go_simp; rfl) | go_simp
            refine lx_nil (by kernel_rfl) ?_
            go_wp2
            refine ⟨⟨i + 1, n + 1, dn ++ [(nm, ⟨f.b.take lk, lk⟩)], post, by go_num, by go_num, by omega, by simp [hdn], ?_, ?_, ?_⟩, by simp [intOf]; omega⟩
            · show (dn ++ [(nm, (⟨f.b.take lk, lk⟩ : Fle))]) ++ restL post (keep.drop (n + 1)) = R
              rw [← hHR.out, HRF.out, List.append_assoc]
              rfl
            · show List.map Prod.fst _ = _
              rw [← HNm.out]; simp
            · rw [List.append_assoc]
              exact Rp.next hki hGi (Rp.next (Keep.ofBelow hbX) (fun i hi => Or.inl hi) hRp2)
        · have hcn : ¬ (n : Int) < (K : Int) := by omega
          have hRF0 := rest_zero f (keep.getD n 0) (by have h9 : keep.getD n 0 = 0 := (by rw [List.getD_eq_getElem?_getD, List.getElem?_eq_none (by rw [HK.out]; exact Nat.le_of_not_lt hnK)]; rfl); rw [h9]; exact Int.max_self 0)
          obtain ⟨lk, HL⟩ : ∃ lk : Nat, Hid (lk = f.safe) := ⟨f.safe, rfl⟩
          have HRF : Hid (restF f (keep.getD n 0) = ⟨f.b.take lk, lk⟩) := by show _ = _; rw [HL.out]; exact hRF0
          have hlkl : lk ≤ ln := by rw [HL.out]; exact hsf
          have hlk9 : lk ≤ 16777216 := Nat.le_trans hlkl hfu
          have hwk0 : wrap64 (lk : Int) = (lk : Int) := by clear hwm; unfold wrap64; omega
          have hwk : wrap64 (f.safe : Int) = (lk : Int) := by rw [← HL.out]; exact hwk0
          have hwk2 : IntKind.i64.wrap (f.safe : Int) = (lk : Int) := by have h9 := HL.out; clear hwm hwk hwk0; rw [IntKind.wrap_i64]; omega
          have Hwk : Hid (wrap64 (f.safe : Int) = (lk : Int)) := hwk
          have Hwk2 : Hid (IntKind.i64.wrap (f.safe : Int) = (lk : Int)) := hwk2
          clear hRF0 hwk hwk2 hwk0
          have hgN := HgC.out lk lk (by rw [HLn.out]; exact hlkl) (Nat.le_refl _)
          go_upto_region 11 with fail
          clear hwm
          have hbe := hbw (.cells #[.string nm, .slice aj ln cj, .int .i64 (f.safe : Int)] 81)
          have hfil := alloc_at wr (.cells #[.string nm, .slice aj ln cj, .int .i64 (f.safe : Int)] 81)
          obtain ⟨bf, hbf⟩ : ∃ bf, wr.heap.size = bf := ⟨_, rfl⟩
          rw [hbf] at hfil ⊢
          generalize wr.alloc (.cells #[.string nm, .slice aj ln cj, .int .i64 (f.safe : Int)] 81) = Z at *
          refine wp_region_lx (fun w' => Below Z.drew.heap.size Z.drew w') [16] 17 (by kernel_rfl) (by kernel_rfl) ?_
          have hbX : Below wr.heap.size wr Z.drew := hbe.drew
          have hfX : Z.drew.heap[bf]? = some (.cells #[.string nm, .slice aj ln cj, .int .i64 (f.safe : Int)] 81 (0, 0)) := hfil
          clear hbe hfil
          generalize Z.drew = X at *
          have hRX := hRi.below hbX
          have hRjX := hRj.carry (Nat.le_refl _) hbX
          have Q0 := (hbX.cell (World.block_lt_of_cell? _ _ q0)).trans q0
          have hcF : ∀ w', Below X.heap.size X w' → w'.cell? ⟨rd, 0, none⟩ = some (.slice (some ⟨g0, 0, none⟩) N cap0) := fun w' hb => (hb.cell (World.block_lt_of_cell? _ _ Q0)).trans Q0
          have hf1 : ∀ w', Below X.heap.size X w' → w'.cell? ⟨bf, 1, none⟩ = some (.slice aj ln cj) := fun w' hb => by rw [cell_of_block (box_below hfX hb)]; rfl
          have hf2 : ∀ w', Below X.heap.size X w' → w'.cell? ⟨bf, 2, none⟩ = some (.int .i64 (f.safe : Int)) := fun w' hb => by rw [cell_of_block (box_below hfX hb)]; rfl
          have hcj := hRj.cap
          have hlk1 : (lk : Int) ≤ (cj : Int) := Int.ofNat_le.2 (Nat.le_trans hlkl hcj)
          have hlk0 : (0 : Int) ≤ (lk : Int) := Int.natCast_nonneg lk
          clear Q0 q0 q1 q2 qs
          have HSX : Below X.heap.size X X := Below.refl _ _
          refine lx_rd 0 ?vmc0 (by kernel_rfl) (fun _ _ d _ _ h => by cases d <;> exact h) (by kernel_rfl) HSX rfl rfl rfl (fun w' hS => ?hmc0) ?_
          case hmc0 => first | (go_simp; rfl) | go_simp
          simp only [List.setIfInBounds_toArray, List.set_cons_zero, List.set_cons_succ]
          refine lx_rd 1 ?vmc1 (by kernel_rfl) (fun _ _ d _ _ h => by cases d <;> exact h) (by kernel_rfl) HSX rfl rfl rfl (fun w' hS => ?hmc1) ?_
          case hmc1 => first | (go_simp; rfl) | go_simp
          simp only [List.setIfInBounds_toArray, List.set_cons_zero, List.set_cons_succ]
          refine lx_rd 2 ?vmc2 (by kernel_rfl) (fun _ _ d _ _ h => by cases d <;> exact h) (by kernel_rfl) HSX rfl rfl rfl (fun w' hS => ?hmc2) ?_
          case hmc2 => first | (go_simp; rfl) | go_simp
          simp only [List.setIfInBounds_toArray, List.set_cons_zero, List.set_cons_succ]
          refine lx_rd 3 (.slice (some ⟨g0, 0, none⟩) N cap0) (by kernel_rfl) (fun _ _ d _ _ h => by cases d <;> exact h) (by kernel_rfl) HSX rfl rfl rfl (fun w' hS => ?hmc3) ?_
          case hmc3 => have q := hcF _ hS; first | (go_simp; rfl) | go_simp
          simp only [List.setIfInBounds_toArray, List.set_cons_zero, List.set_cons_succ]
          refine lx_rd 4 ?vmc4 (by kernel_rfl) (fun _ _ d _ _ h => by cases d <;> exact h) (by kernel_rfl) HSX rfl rfl rfl (fun w' hS => ?hmc4) ?_
          case hmc4 => first | (go_simp; rfl) | go_simp
          simp only [List.setIfInBounds_toArray, List.set_cons_zero, List.set_cons_succ]
          refine lx_rd 6 ?vmc6 (by kernel_rfl) (fun _ _ d _ _ h => by cases d <;> exact h) (by kernel_rfl) HSX rfl rfl rfl (fun w' hS => ?hmc6) ?_
          case hmc6 => first | (go_simp; rfl) | go_simp
          simp only [List.setIfInBounds_toArray, List.set_cons_zero, List.set_cons_succ]
          refine lx_rd 7 (.slice aj ln cj) (by kernel_rfl) (fun _ _ d _ _ h => by cases d <;> exact h) (by kernel_rfl) HSX rfl rfl rfl (fun w' hS => ?hmc7) ?_
          case hmc7 => have q := hf1 _ hS; first | (go_simp; rfl) | go_simp
          simp only [List.setIfInBounds_toArray, List.set_cons_zero, List.set_cons_succ]
          refine lx_rd 8 ?vmc8 (by kernel_rfl) (fun _ _ d _ _ h => by cases d <;> exact h) (by kernel_rfl) HSX rfl rfl rfl (fun w' hS => ?hmc8) ?_
          case hmc8 => first | (go_simp; rfl) | go_simp
          simp only [List.setIfInBounds_toArray, List.set_cons_zero, List.set_cons_succ]
          refine lx_rd 9 (.int .i64 (f.safe : Int)) (by kernel_rfl) (fun _ _ d _ _ h => by cases d <;> exact h) (by kernel_rfl) HSX rfl rfl rfl (fun w' hS => ?hmc9) ?_
          case hmc9 => have q := hf2 _ hS; first | (go_simp; rfl) | go_simp
          simp only [List.setIfInBounds_toArray, List.set_cons_zero, List.set_cons_succ]
          refine lx_rd 10 ?vmc10 (by kernel_rfl) (fun _ _ d _ _ h => by cases d <;> exact h) (by kernel_rfl) HSX rfl rfl rfl (fun w' hS => ?hmc10) ?_
          case hmc10 => first | (go_simp; rfl) | go_simp
          simp only [List.setIfInBounds_toArray, List.set_cons_zero, List.set_cons_succ]
          refine lx_rd 11 (.int .i64 (lk : Int)) (by kernel_rfl) (fun _ _ d _ _ h => by cases d <;> exact h) (by kernel_rfl) HSX rfl rfl rfl (fun w' hS => ?hmc11) ?_
          case hmc11 => have hq1 := Hwk.out; have hq2 := Hwk2.out; first | (go_simp; rfl) | go_simp
          simp only [List.setIfInBounds_toArray, List.set_cons_zero, List.set_cons_succ]
          refine lx_rd 12 (.slice aj lk cj) (by kernel_rfl) (fun _ _ d _ _ h => by cases d <;> exact h) (by kernel_rfl) HSX rfl rfl rfl (fun w' hS => ?hmc12) ?_
          case hmc12 => first | (go_simp; rfl) | go_simp
          simp only [List.setIfInBounds_toArray, List.set_cons_zero, List.set_cons_succ]
          have hX0 : Below X.heap.size X (X.alloc (.cells #[] 5)) := (Below.refl _ _).alloc (Nat.le_refl _) _
          have hemp : (X.alloc (.cells #[] 5)).ownsRow X.heap.size 5 1 (.slice (some ⟨X.heap.size, 0, none⟩) 0 0) 0 (bc []) := World.ownsRow_made X #[] 0 (Nat.le_refl _) (by unfold maxLen; omega) rfl
          refine lx_one 5 (by kernel_rfl) (stepT_val (w' := X.alloc (.cells #[] 5)) (.slice (some ⟨X.heap.size, 0, none⟩) 0 0) rfl rfl rfl ?r5c (fun _ => hX0) ?_)
          case r5c => first | (go_simp; rfl) | go_simp
          simp only [List.setIfInBounds_toArray, List.set_cons_zero, List.set_cons_succ]
          obtain ⟨v5, w5, hrun5, o5, hb5⟩ := run_appJ 31 hemp ((hRjX.takeK hlkl).carry (Nat.le_refl _) hX0) (by omega) hX0.size
          have hb5' := hX0.trans hb5
          refine lx_one 13 (by kernel_rfl) (stepT_val (w' := w5) v5 rfl rfl rfl (exec_appJ rfl rfl rfl hrun5) (fun _ => hb5') ?_)
          simp only [List.setIfInBounds_toArray, List.set_cons_zero, List.set_cons_succ]
          rw [Nat.zero_add, List.nil_append] at o5
          obtain ⟨a6, c6, rfl, hn6⟩ := Rd.ofRowE o5
          have hbl : (f.b.take lk).length = lk := by rw [List.length_take, HLn.out]; omega
          have o6' : w5.ownsRow X.heap.size 5 1 (.slice a6 lk c6) (f.b.take lk).length (bc (f.b.take lk)) := by rw [hbl]; exact o5
          obtain ⟨g, cap, r0, hcap, ⟨u, r1⟩, r2, t0, t1, t2, t3, hRp⟩ := hRX.setBS hb5' (by have h := Hix.out; rw [Hki.out] at h; exact h) o6' hgN
          have R0 := hcF _ hb5'
          rw [r0] at R0
          have hgg : g = g0 := by injection R0 with h; injection h with h _ _; injection h with h; injection h
          have hcc : cap = cap0 := by injection R0 with h; injection h
          rw [hgg] at r0 r1 r2 t0 t1 t2 t3 hRp
          rw [HNf.out, hcc] at t0
          rw [Hput.out] at hRp
          clear R0 hgg hcc
          refine lx_one 14 (by kernel_rfl) (stepT_val (w' := w5) (.pointer (some ⟨g0, i * 3, none⟩)) rfl rfl rfl ?r14c (fun _ => hb5') ?_)
          case r14c => first | (go_simp; rfl) | go_simp
          simp only [List.setIfInBounds_toArray, List.set_cons_zero, List.set_cons_succ]
          refine lx_one 15 (by kernel_rfl) (stepT_val (w' := w5) (.pointer (some ⟨g0, i * 3 + 1, none⟩)) rfl rfl rfl ?r15c (fun _ => hb5') ?_)
          case r15c => first | (go_simp; rfl) | go_simp
          simp only [List.setIfInBounds_toArray, List.set_cons_zero, List.set_cons_succ]
          refine lx_one 16 (by kernel_rfl) (stepT_store (w' := w5.setCell ⟨g0, i * 3 + 1, none⟩ (.slice a6 lk c6)) rfl rfl rfl ?r16c (fun h => by cases h) ?_)
          case r16c => first | (go_simp; rfl) | go_simp
          refine lx_nil (by kernel_rfl) ?_
          generalize w5.setCell ⟨g0, i * 3 + 1, none⟩ (.slice a6 lk c6) = Y at *
          clear r0 r1 r2 hcF hf1 hf2 hlenB
          go_upto_region 12 with fail
          have hlenC := fun w => len_slice a6 lk c6 31 3 w Try.underlying31
          refine wp_region_lx (fun w' => w' = Y.drew) [16] 17 (by kernel_rfl) (by kernel_rfl) ?_
          have hRp2 : Rp X Gi rd { k with fs := dn ++ (nm, ⟨f.b.take lk, lk⟩) :: post } (Y.drew.setCell ⟨g0, i * 3 + 2, none⟩ (.int .i64 (lk : Int))) := hRp.then (Below.refl _ _).drew
          have T0 : Y.drew.cell? ⟨rd, 0, none⟩ = some (.slice (some ⟨g0, 0, none⟩) N cap0) := t0
          have T1 : Y.drew.cell? ⟨g0, i * 3 + 1, none⟩ = some (.slice a6 lk c6) := t1
          have T2 : Y.drew.cell? ⟨g0, i * 3 + 2, none⟩ = some (.int .i64 (f.safe : Int)) := t2
          have T3 : Y.drew.frozen? ⟨g0, i * 3 + 2, none⟩ = false := t3
          clear t0 t1 t2 t3 hRp
          generalize Y.drew = X2 at *
          have HSwc : X2 = X2 := rfl
          refine lx_rd 0 ?vwc0 (by kernel_rfl) (fun _ _ d _ _ h => by cases d <;> exact h) (by kernel_rfl) HSwc rfl rfl rfl (fun w' hS => ?hwc0) ?_
          case hwc0 => first | (go_simp; rfl) | go_simp
          simp only [List.setIfInBounds_toArray, List.set_cons_zero, List.set_cons_succ]
          refine lx_rd 1 ?vwc1 (by kernel_rfl) (fun _ _ d _ _ h => by cases d <;> exact h) (by kernel_rfl) HSwc rfl rfl rfl (fun w' hS => ?hwc1) ?_
          case hwc1 => first | (go_simp; rfl) | go_simp
          simp only [List.setIfInBounds_toArray, List.set_cons_zero, List.set_cons_succ]
          refine lx_rd 2 ?vwc2 (by kernel_rfl) (fun _ _ d _ _ h => by cases d <;> exact h) (by kernel_rfl) HSwc rfl rfl rfl (fun w' hS => ?hwc2) ?_
          case hwc2 => first | (go_simp; rfl) | go_simp
          simp only [List.setIfInBounds_toArray, List.set_cons_zero, List.set_cons_succ]
          refine lx_rd 3 (.slice (some ⟨g0, 0, none⟩) N cap0) (by kernel_rfl) (fun _ _ d _ _ h => by cases d <;> exact h) (by kernel_rfl) HSwc rfl rfl rfl (fun w' hS => ?hwc3) ?_
          case hwc3 => subst hS; first | (go_simp; rfl) | go_simp
          simp only [List.setIfInBounds_toArray, List.set_cons_zero, List.set_cons_succ]
          refine lx_rd 4 ?vwc4 (by kernel_rfl) (fun _ _ d _ _ h => by cases d <;> exact h) (by kernel_rfl) HSwc rfl rfl rfl (fun w' hS => ?hwc4) ?_
          case hwc4 => first | (go_simp; rfl) | go_simp
          simp only [List.setIfInBounds_toArray, List.set_cons_zero, List.set_cons_succ]
          refine lx_rd 5 ?vwc5 (by kernel_rfl) (fun _ _ d _ _ h => by cases d <;> exact h) (by kernel_rfl) HSwc rfl rfl rfl (fun w' hS => ?hwc5) ?_
          case hwc5 => first | (go_simp; rfl) | go_simp
          simp only [List.setIfInBounds_toArray, List.set_cons_zero, List.set_cons_succ]
          refine lx_rd 6 ?vwc6 (by kernel_rfl) (fun _ _ d _ _ h => by cases d <;> exact h) (by kernel_rfl) HSwc rfl rfl rfl (fun w' hS => ?hwc6) ?_
          case hwc6 => first | (go_simp; rfl) | go_simp
          simp only [List.setIfInBounds_toArray, List.set_cons_zero, List.set_cons_succ]
          refine lx_rd 7 ?vwc7 (by kernel_rfl) (fun _ _ d _ _ h => by cases d <;> exact h) (by kernel_rfl) HSwc rfl rfl rfl (fun w' hS => ?hwc7) ?_
          case hwc7 => first | (go_simp; rfl) | go_simp
          simp only [List.setIfInBounds_toArray, List.set_cons_zero, List.set_cons_succ]
          refine lx_rd 8 (.slice (some ⟨g0, 0, none⟩) N cap0) (by kernel_rfl) (fun _ _ d _ _ h => by cases d <;> exact h) (by kernel_rfl) HSwc rfl rfl rfl (fun w' hS => ?hwc8) ?_
          case hwc8 => subst hS; first | (go_simp; rfl) | go_simp
          simp only [List.setIfInBounds_toArray, List.set_cons_zero, List.set_cons_succ]
          refine lx_rd 9 ?vwc9 (by kernel_rfl) (fun _ _ d _ _ h => by cases d <;> exact h) (by kernel_rfl) HSwc rfl rfl rfl (fun w' hS => ?hwc9) ?_
          case hwc9 => first | (go_simp; rfl) | go_simp
          simp only [List.setIfInBounds_toArray, List.set_cons_zero, List.set_cons_succ]
          refine lx_rd 10 (.pointer (some ⟨g0, i * 3, none⟩)) (by kernel_rfl) (fun _ _ d _ _ h => by cases d <;> exact h) (by kernel_rfl) HSwc rfl rfl rfl (fun w' hS => ?hwc10) ?_
          case hwc10 => first | (go_simp; rfl) | go_simp
          simp only [List.setIfInBounds_toArray, List.set_cons_zero, List.set_cons_succ]
          refine lx_rd 11 (.pointer (some ⟨g0, i * 3 + 1, none⟩)) (by kernel_rfl) (fun _ _ d _ _ h => by cases d <;> exact h) (by kernel_rfl) HSwc rfl rfl rfl (fun w' hS => ?hwc11) ?_
          case hwc11 => first | (go_simp; rfl) | go_simp
          simp only [List.setIfInBounds_toArray, List.set_cons_zero, List.set_cons_succ]
          refine lx_rd 12 (.slice a6 lk c6) (by kernel_rfl) (fun _ _ d _ _ h => by cases d <;> exact h) (by kernel_rfl) HSwc rfl rfl rfl (fun w' hS => ?hwc12) ?_
          case hwc12 => subst hS; first | (go_simp; rfl) | go_simp
          simp only [List.setIfInBounds_toArray, List.set_cons_zero, List.set_cons_succ]
          refine lx_rd 13 (.int .i64 lk) (by kernel_rfl) (fun _ _ d _ _ h => by cases d <;> exact h) (by kernel_rfl) HSwc rfl rfl rfl (fun w' hS => ?hwc13) ?_
          case hwc13 => first | (go_simp; rfl) | go_simp
          simp only [List.setIfInBounds_toArray, List.set_cons_zero, List.set_cons_succ]
          refine lx_one 14 (by kernel_rfl) (stepT_val (w' := X2) (.pointer (some ⟨g0, i * 3, none⟩)) rfl rfl rfl ?r14wc (fun _ => rfl) ?_)
          case r14wc => first | (go_simp; rfl) | go_simp
          simp only [List.setIfInBounds_toArray, List.set_cons_zero, List.set_cons_succ]
          refine lx_one 15 (by kernel_rfl) (stepT_val (w' := X2) (.pointer (some ⟨g0, i * 3 + 2, none⟩)) rfl rfl rfl ?r15wc (fun _ => rfl) ?_)
          case r15wc => first | (go_simp; rfl) | go_simp
          simp only [List.setIfInBounds_toArray, List.set_cons_zero, List.set_cons_succ]
          refine lx_one 16 (by kernel_rfl) (stepT_store (w' := X2.setCell ⟨g0, i * 3 + 2, none⟩ (.int .i64 (lk : Int))) rfl rfl rfl ?r16wc (fun h => by cases h) ?_)
          case r16wc => first | (go_simp; rfl) | go_simp
          refine lx_nil (by kernel_rfl) ?_
          go_wp2
          refine ⟨⟨i + 1, n + 1, dn ++ [(nm, ⟨f.b.take lk, lk⟩)], post, by go_num, by go_num, by omega, by simp [hdn], ?_, ?_, ?_⟩, by simp [intOf]; omega⟩
          · show (dn ++ [(nm, (⟨f.b.take lk, lk⟩ : Fle))]) ++ restL post (keep.drop (n + 1)) = R
            rw [← hHR.out, HRF.out, List.append_assoc]
            rfl
          · show List.map Prod.fst _ = _
            rw [← HNm.out]; simp
          · rw [List.append_assoc]
            exact Rp.next hki hGi (Rp.next (Keep.ofBelow hbX) (fun i hi => Or.inl hi) hRp2)

end Go.Proofs.Ytimfidhehikaiaa
