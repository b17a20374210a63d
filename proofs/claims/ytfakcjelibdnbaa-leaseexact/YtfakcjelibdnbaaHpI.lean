/- lease: Due. -/
import Derived.Test.YtfakcjelibdnbaaHpH
import Derived.Test.YtfakcjelibdnbaaHpS
namespace Go.Proofs.Ytfakcjelibdnbaa
open Go.RowKit Go.Joins

/-- A builtin whose word is not kept. -/
theorem stepT_valN {P : Program} {ops : Array Oper} {Q : Exit → Act → World → Prop} {S : World → Prop} {T : List Nat} {i : Nat} {K : Act → World → Prop} {tm : Array Value} {df : List Deferred} {w w' : World} {o : Oper} (v : Value) (ho : ops[i]? = some o) (hd : o.dst = none) (hw : Region.wanted o (yielded ops tm) = true)
    (hrun : (execOp (Act.eval { tmps := tm, defers := df }) o).run P w = .ok (.value v) w') (hS : T.contains i = false → S w') (h : K { tmps := tm, defers := df } w') : stepT P ops Q S T i K { tmps := tm, defers := df } w := by
  unfold stepT wpOp
  rw [ho]
  simp only
  rw [if_pos hw]
  refine .inl ?_
  unfold Oper.wp
  rw [hrun]
  show (T.contains i = false → S w') ∧ K (Act.put { tmps := tm, defers := df } o.dst v) w'
  rw [hd]
  exact ⟨hS, h⟩

theorem due_none {L : Le} (h : fstL L = none) (now : Nat) : due L now = ([], L) := by
  rw [fstL_none h]; rfl
theorem due_late {L : Le} {p : ByteArray × Nat} (h : fstL L = some p) {now : Nat} (hp : fle p.2 now = false) : due L now = ([], L) := by
  unfold due
  cases L with
  | nil => cases h
  | cons x L =>
    rw [List.length_cons]
    unfold dueN
    rw [h]
    simp [hp]
theorem due_take {L : Le} (hn : Nk L) {p : ByteArray × Nat} (h : fstL L = some p) {now : Nat} (hp : fle p.2 now = true) : due L now = (p.1 :: (due (drp L p.1) now).1, (due (drp L p.1) now).2) := by
  have hl := drp_len hn (fstL_mem h)
  unfold due
  rw [← hl]
  simp only [dueN, h, hp, if_true]

/-- What Due leaves: the texts in a row of its own. -/
structure DueP (w w' : World) (F : Nat → Prop) (q tn : Nat) (K : List ByteArray) (L : Le) (v : Value) : Prop where
  row : w'.ownsRow w.heap.size 9 1 v K.length (sc K)
  dl : Dl w w' F q tn L

set_option maxHeartbeats 4000000 in
theorem due_any {w : World} {F : Nat → Prop} {q tn : Nat} {L : Le} (h : HAt w F q tn L) (now : Nat) (htn : tn ≤ 1000000) :
    Calls Try.prog 12 #[.pointer (some ⟨q, 0, none⟩), .float .f64 now] w fun r w' => ∃ v, r = .returned v ∧ DueP w w' F q tn (due L now).1 (due L now).2 v := by
  obtain ⟨R1, R2, hR⟩ : ∃ R1 R2, due L now = (R1, R2) := ⟨_, _, rfl⟩
  rw [hR]
  have HF : Hid (∀ k, F k → k < w.heap.size) := fun k hk => h.lt hk
  have HL : Hid (L.length ≤ tn) := h.ltn
  have H0 : Hid (HAt w F q tn L) := h
  have HR : Hid (due L now = (R1, R2)) := hR
  clear h hR
  go_enter Try.func12, Try.ntmps12
  go_wp2
  go_loopg [5] L.length (fun kx s5 wr => ∃ (K : List ByteArray) (L' : Le) (F' : Nat → Prop), L'.length ≤ kx ∧ Hid (K.length + L'.length ≤ tn) ∧ Hid (wr.ownsRow w.heap.size 9 1 s5 K.length (sc K)) ∧ Hid (HAt wr F' q tn L') ∧ Hid (∀ x, F' x → F x) ∧ Hid (Keep F w wr) ∧ Hid (K ++ (due L' now).1 = R1 ∧ (due L' now).2 = R2))
  case atStart => exact ⟨[], L, F, Nat.le_refl _, (by show 0 + _ ≤ _; have := HL.out; omega), ⟨rfl, .inl ⟨rfl, rfl⟩⟩, H0, fun _ h => h, Keep.refl _ _, by rw [HR.out]; exact ⟨rfl, rfl⟩⟩
  case round =>
    clear H0 HR HL
    obtain ⟨K, L', F', hkx, HKL, HO, HH, HFF, HK, HE⟩ := hrel
    cases hf : fstL L' with
    | none =>
      obtain ⟨E, mb, g, n, c, N, d, hI, hab⟩ := HH.out
      have hz : n = 0 := by
        have := fstL_none hf
        rw [hab, ← List.length_eq_zero_iff, abs_len, hI.lv.len] at this
        exact this
      subst hz
      have c1 := hI.gp.hb.c1
      unfold sl at c1
      have e := due_none hf now
      have HX : Hid _ := e
      clear hI hab e hf
      go_wp2
      go_ret
      refine ⟨_, rfl, ?_, F', ?_, HFF.out, HK.out⟩
      · have := HE.out.1; rw [HX.out] at this; simp at this; rw [← this]; exact HO.out
      · have := HE.out.2; rw [HX.out] at this; rw [← this]; exact HH.out
    | some p =>
      obtain ⟨E, mb, g, n, c, N, d, hI, hab⟩ := HH.out
      have hpos : 0 < n := by
        rcases Nat.eq_zero_or_pos n with hz | hz
        · have : abs E = [] := by rw [← List.length_eq_zero_iff, abs_len, hI.lv.len, hz]
          rw [hab, this] at hf; cases hf
        · exact hz
      have htop := hI.lv.top hI.gp.hp hpos
      rw [← hab, hf] at htop
      obtain ⟨b, rfl⟩ := hI.gp.od.has hpos
      obtain ⟨m, rfl⟩ : ∃ m, n = m + 1 := ⟨n - 1, by omega⟩
      have c1 : wr.cell? ⟨q, 1, none⟩ = some (.slice (some ⟨b, 0, none⟩) (m + 1) c) := hI.gp.hb.c1
      have r0 := (hI.gp.od.row b rfl).cell (i := 0) (by omega)
      have ce := (hI.gp.od.ls 0 (by omega)).c1
      have hle := f64_le (d 0).e now
      have hfew := hI.gp.od.few
      cases hq : fle (d 0).e now with
      | false =>
        rw [hq] at hle
        have HX : Hid (due L' now = ([], L')) := due_late hf (by rw [Option.some.inj htop]; exact hq)
        clear hI hab hf htop hq
        go_wp2
        go_ret
        refine ⟨_, rfl, ?_, F', ?_, HFF.out, HK.out⟩
        · have := HE.out.1; rw [HX.out] at this; simp at this; rw [← this]; exact HO.out
        · have := HE.out.2; rw [HX.out] at this; rw [← this]; exact HH.out
      | true =>
        rw [hq] at hle
        have HX : Hid (due L' now = ((d 0).k :: (due (drp L' (d 0).k) now).1, (due (drp L' (d 0).k) now).2)) := by
          have := due_take HH.out.nk hf (by rw [Option.some.inj htop]; exact hq)
          rw [Option.some.inj htop] at this; exact this
        have HD : Hid ((drp L' (d 0).k).length + 1 = L'.length) := by
          have := drp_len HH.out.nk (fstL_mem hf)
          rw [Option.some.inj htop] at this; exact this
        have hks : (d 0).k.size ≤ 1000000 := hI.lv.sm _ ((hI.lv.mem _).2 ⟨0, by omega, rfl⟩)
        have HI' : Hid (HI wr F' q tn E mb (some b) (m + 1) c N d) := hI
        have HA : Hid (L' = abs E) := hab
        have cP := hpop_any q mb b m c tn d wr hI.gp
        have hta := ta_run ⟨(d 0).b, 0, none⟩
        unfold oi oq at cP
        clear hI hab hf htop hq
        go_upto_region 4 with (go_at_call 31; refine cP.mono ?_; clear cP; rintro r w1 ⟨rfl, d', hP⟩)
        have hM1 : PMap w1 mb N (mOf E) := HI'.out.mp.keep hP.kp (fun hk2 => by
          rcases hk2 with e | e | ⟨j, hj, e⟩
          · exact HI'.out.mp.notCells HI'.out.gp.hb e.symm
          · obtain ⟨cur, g1, _⟩ := HI'.out.gp.od.row mb e
            exact HI'.out.mp.notCells g1 rfl
          · exact HI'.out.mp.notCells (HI'.out.gp.od.ls j hj) e)
        have hc0 := hP.gp.hb.c0
        have hk0 := hP.ls.c0
        have hnl := hM1.notCells hP.ls
        have HP : Hid (HRemP q mb tn b m c 0 d wr w1 d') := hP
        clear hP c1 r0 ce hle hta
        refine wp_region_lx (fun w' => w'.cell? ⟨q, 0, none⟩ = some (.map (some mb)) ∧ w'.cell? ⟨(d 0).b, 0, none⟩ = some (.string (d 0).k)) [] 9 (by kernel_rfl) (by kernel_rfl) ?_
        have HS : w1.drew.cell? ⟨q, 0, none⟩ = some (.map (some mb)) ∧ w1.drew.cell? ⟨(d 0).b, 0, none⟩ = some (.string (d 0).k) := ⟨hc0, hk0⟩
        have hM2 : PMap w1.drew mb N (mOf E) := hM1
        have k12 : Keep (fun k => k = mb) w1 w1.drew := (Keep.refl _ _).drew
        clear hM1 hc0 hk0
        generalize w1.drew = W2 at *
        refine lx_rd 0 ?vR0 (by kernel_rfl) (fun _ _ d _ _ h => by cases d <;> exact h) (by kernel_rfl) HS rfl rfl rfl (fun w' hS => ?hR0) ?_
        case hR0 => first | (go_simp; rfl) | go_simp
        simp only [List.setIfInBounds_toArray, List.set_cons_zero, List.set_cons_succ]
        refine lx_rd 1 ?vR1 (by kernel_rfl) (fun _ _ d _ _ h => by cases d <;> exact h) (by kernel_rfl) HS rfl rfl rfl (fun w' hS => ?hR1) ?_
        case hR1 => first | (go_simp; rfl) | go_simp
        simp only [List.setIfInBounds_toArray, List.set_cons_zero, List.set_cons_succ]
        refine lx_rd 2 ?vR2 (by kernel_rfl) (fun _ _ d _ _ h => by cases d <;> exact h) (by kernel_rfl) HS rfl rfl rfl (fun w' hS => ?hR2) ?_
        case hR2 => first | (go_simp; rfl) | go_simp
        simp only [List.setIfInBounds_toArray, List.set_cons_zero, List.set_cons_succ]
        refine lx_rd 3 (.map (some mb)) (by kernel_rfl) (fun _ _ d _ _ h => by cases d <;> exact h) (by kernel_rfl) HS rfl rfl rfl (fun w' hS => ?hR3) ?_
        case hR3 => have q1 := hS.1; first | (go_simp; rfl) | go_simp
        simp only [List.setIfInBounds_toArray, List.set_cons_zero, List.set_cons_succ]
        refine lx_rd 4 ?vR4 (by kernel_rfl) (fun _ _ d _ _ h => by cases d <;> exact h) (by kernel_rfl) HS rfl rfl rfl (fun w' hS => ?hR4) ?_
        case hR4 => first | (go_simp; rfl) | go_simp
        simp only [List.setIfInBounds_toArray, List.set_cons_zero, List.set_cons_succ]
        refine lx_rd 5 ?vR5 (by kernel_rfl) (fun _ _ d _ _ h => by cases d <;> exact h) (by kernel_rfl) HS rfl rfl rfl (fun w' hS => ?hR5) ?_
        case hR5 => first | (go_simp; rfl) | go_simp
        simp only [List.setIfInBounds_toArray, List.set_cons_zero, List.set_cons_succ]
        refine lx_rd 6 ?vR6 (by kernel_rfl) (fun _ _ d _ _ h => by cases d <;> exact h) (by kernel_rfl) HS rfl rfl rfl (fun w' hS => ?hR6) ?_
        case hR6 => first | (go_simp; rfl) | go_simp
        simp only [List.setIfInBounds_toArray, List.set_cons_zero, List.set_cons_succ]
        refine lx_rd 7 (.string (d 0).k) (by kernel_rfl) (fun _ _ d _ _ h => by cases d <;> exact h) (by kernel_rfl) HS rfl rfl rfl (fun w' hS => ?hR7) ?_
        case hR7 => have q1 := hS.2; first | (go_simp; rfl) | go_simp
        simp only [List.setIfInBounds_toArray, List.set_cons_zero, List.set_cons_succ]
        obtain ⟨w3, hr3, hM3, hk3⟩ := hM2.drop (d 0).k (by unfold maxLen; omega) 0
        have nq3 : q ≠ mb := HI'.out.mp.notCells HI'.out.gp.hb
        refine lx_one 8 (by kernel_rfl) (stepT_valN (w' := w3) (.tuple #[]) rfl rfl rfl ?r8 (fun _ => ⟨hk3.cell HS.1 nq3, hk3.cell HS.2 hnl⟩) ?_)
        case r8 => go_simp
        refine lx_nil (by kernel_rfl) ?_
        have hk3c : w3.cell? ⟨(d 0).b, 0, none⟩ = some (.string (d 0).k) := hk3.cell HS.2 hnl
        have HDl : Hid (Dl wr w3 F' q tn (drp (abs E) (d 0).k)) := remDl HI'.out HP.out hM3 (k12.trans hk3)
        clear hM3 hk3 hr3 hM2 k12 HS hnl
        obtain ⟨F2, HF2⟩ : ∃ F2, Hid (HAt w3 F2 q tn (drp L' (d 0).k) ∧ (∀ x, F2 x → F' x) ∧ Keep F' wr w3) := by
          obtain ⟨F2, g⟩ := HDl.out
          rw [← HA.out] at g
          exact ⟨F2, g⟩
        have HO3 : Hid (w3.ownsRow w.heap.size 9 1 u5 K.length (sc K)) := own_keep HO.out HF2.out.2.2 (fun k hk2 hF => by
          have h1 := HF.out k (HFF.out k hF)
          rcases HO.out.2 with ⟨e, _⟩ | ⟨g, cap, cur, e, hg, _⟩
          · rw [e] at hk2; cases hk2
          · rw [e] at hk2
            have : g = k := Option.some.inj hk2
            omega)
        have hKn : K.length ≤ 1000000 := by have := HKL.out; omega
        have hB3 : w.heap.size ≤ w3.heap.size := Nat.le_trans HK.out.size HF2.out.2.2.size
        clear HDl HP
        go_wp2_with (at_builtin; refine wp_app1 28 9 (.string ⟨#[]⟩) 16 Try.underlying28 infoStr (by decide) rfl rfl _ _ rfl w.heap.size u5 K.length _ rfl HO3.out (.string (d 0).k) rfl rfl hKn hB3 ?_; intro v4 w4 ho4 hk4 hw4 hv4)
        have hown : ∀ k, u5.ownBlock = some k → w.heap.size ≤ k := fun k hk2 => by
          rcases HO.out.2 with ⟨e, _⟩ | ⟨g, cap, cur, e, hg, _⟩
          · rw [e] at hk2; cases hk2
          · rw [e] at hk2
            have : g = k := Option.some.inj hk2
            omega
        have k3 : Keep F w w3 := HK.out.trans (HF2.out.2.2.mono HFF.out)
        have e4 : sc K ++ [Value.string (d 0).k] = sc (K ++ [(d 0).k]) := by simp [sc]
        have l4 : K.length + 1 = (K ++ [(d 0).k]).length := by simp
        rw [e4, l4] at ho4
        go_roundg (drp L' (d 0).k).length
        case measure => have := HD.out; omega
        case rel =>
          refine ⟨K ++ [(d 0).k], drp L' (d 0).k, F2, Nat.le_refl _, ?_, ho4, HF2.out.1.keep hk4 (fun x hx hk2 => ?_), fun x hx => HFF.out x (HF2.out.2.1 x hx), k3.andThen hk4 (fun i hi hk2 => ?_), ?_⟩
          · show (K ++ [(d 0).k]).length + _ ≤ tn
            have h1 := HKL.out
            have h2 := HD.out
            rw [← l4]; omega
          · have h1 := HF.out x (HFF.out x (HF2.out.2.1 x hx))
            have h2 := hown x hk2
            omega
          · have h2 := hown i hk2
            omega
          · have h1 := HE.out
            rw [HX.out] at h1
            exact ⟨by rw [← h1.1]; simp, h1.2⟩

end Go.Proofs.Ytfakcjelibdnbaa
