/- DiskSafe: the law's walk. -/
import Derived.Test.YtimfidhehikaiaaDkI
import Derived.Lib.SlBuf
namespace Go.Proofs.Ytimfidhehikaiaa
open Go.RowKit

theorem exec_appG {w w' : World} {o : Oper} {ρ : Operand → Value} {s x : Operand} {v u v' : Value} (ho : o.op = .call { callee := .builtin .append, args := #[s, x], argTypes := #[31, 31] }) (hs : ρ s = v) (hx : ρ x = u)
    (hrun : (Builtin.append_ #[31, 31] o.type #[v, u]).run Try.prog w = .ok v' w') : (execOp ρ o).run Try.prog w = .ok (.value v') w' := by
  simp only [execOp, ho, resolve, invoke, builtin, Sem.run_bind, Sem.run_pure, Result.andThen_ok, List.map_toArray, List.map_cons, List.map_nil, hs, hx, hrun]
theorem run_appG {w : World} (ty : TypeId) {base : Nat} {v : Value} {n : Nat} {xs : List Int} (hown : w.ownsRow base 5 1 v n (bc xs)) {ao : Option Addr} {m c : Nat} {ys : List Int} (hr : Rd w ao m c ys) (hb : n + m ≤ 1000000000) (hbase : base ≤ w.heap.size) :
    ∃ v' w', (Builtin.append_ #[31, 31] ty #[v, .slice ao m c]).run Try.prog w = .ok v' w' ∧ w'.ownsRow base 5 1 v' (n + m) (bc (xs ++ ys)) ∧ Below base w w' := by
  obtain ⟨i0, hi, hz0, hz1, hz2⟩ := info_parts Try.info5
  cases ao with
  | none =>
    obtain ⟨rfl, rfl⟩ := rd_noneK hr rfl
    have hys : ys = [] := List.eq_nil_of_length_eq_zero hr.len
    subst hys
    exact ⟨v, w, run_append_owned_none w base 31 ty 5 i0 1 Try.underlying31 hi v n (bc xs) hown, by simpa using hown, Below.refl _ _⟩
  | some ad =>
    obtain ⟨v', w', hrun, h2, h3, _⟩ := run_append_own (P := Try.prog) w base 31 ty 5 i0 (.int .u8 0) 1 1 Try.underlying31 hi hz0 hz1 hz2 rfl (by decide) v n (bc xs) hown ad m c (bc ys) (by rw [bc_len, hr.len]; omega) (hr.news rfl) (bc_one ys) (by unfold maxLen; omega) (by omega) hbase
    rw [← bc_append] at h2
    exact ⟨v', w', hrun, h2, (Below.refl _ _).grown h3 hbase (fun k hk => (hown.lt k hk).1)⟩
theorem str_sizeG (xs : List Int) : (strOfNums xs).size = xs.length := by simp [strOfNums, ByteArray.size]
theorem str_takeG (xs : List Int) (j : Nat) : (strOfNums xs).extract 0 j = strOfNums (xs.take j) := by
  rw [Lib.extract_eq]
  simp only [strOfNums]
  congr 1
  rw [← Array.toList_inj]
  simp [List.map_take]

/-- Nothing of F is the row's block. -/
def Apt (F : Nat → Prop) (v : Value) : Prop := ∀ g, v.ownBlock = some g → ¬ F g
theorem Apt.next {w : World} {F F' : Nat → Prop} {B : Nat} {t : TypeId} {v : Value} {n : Nat} {xs : List Value} (h : Apt F v) (ho : w.ownsRow B t 1 v n xs) (hF : ∀ i, F' i → F i ∨ w.heap.size ≤ i) : Apt F' v := fun g hg hf => by
  rcases hF g hf with h1 | h1
  · exact h g hg h1
  · have := (ho.lt g hg).2; omega
theorem Apt.new {w : World} {F : Nat → Prop} {B : Nat} {t : TypeId} {v : Value} {n : Nat} {xs : List Value} (ho : w.ownsRow B t 1 v n xs) (hF : ∀ i, F i → i < B) : Apt F v := fun g hg hf => by
  have := (ho.lt g hg).1
  have := hF g hf
  omega

def sG : Nm := ⟨#[102]⟩
theorem nmG : isNm sG = true := by kernel_rfl
/-- The disk of the law: one file, its first bytes safe. -/
structure SSt (k : Dk) (A B : List Int) (i : Nat) : Prop where
  xroom : k.room = 100000
  xfs : k.fs = [(sG, ⟨A ++ B, A.length⟩)]
  xsteps : k.steps ≤ i

theorem SSt.look {k : Dk} {A B : List Int} {i : Nat} (h : SSt k A B i) : look k.fs sG = some ⟨A ++ B, A.length⟩ := by rw [h.xfs]; rfl
theorem putG (f g : Fle) : putL [(sG, f)] sG g = [(sG, g)] := by
  unfold putL
  rw [if_neg (ltN_irrefl sG), if_pos rfl]
theorem SSt.app {k : Dk} {A B : List Int} {i : Nat} (h : SSt k A B i) (on : k.off = false) (ys : List Int) (hl : A.length + B.length + ys.length ≤ 100000) :
    ∃ en k', appK k sG ys = (en, k') ∧ SSt k' A (B ++ ys) (i + 1) ∧ ((en = 0 ∧ k'.off = false) ∨ (en = 13 ∧ k'.off = true)) := by
  have hu : used k.fs = A.length + B.length := by rw [h.xfs]; simp [used]
  have e : appK k sG ys = passK { k with fs := [(sG, ⟨A ++ (B ++ ys), A.length⟩)] } := by
    unfold appK
    rw [on, nmG, if_neg (by decide), if_neg (by decide), if_neg (not_not_intro (by rw [hu, h.xroom]; omega)), h.look, h.xfs, putG]
    simp
  rw [e]
  have hs := h.xsteps
  unfold passK
  dsimp only
  cases hf : k.fu with
  | none => exact ⟨_, _, rfl, ⟨h.xroom, rfl, by show k.steps + 1 ≤ i + 1; omega⟩, Or.inl ⟨rfl, on⟩⟩
  | some n =>
    cases n with
    | zero => exact ⟨_, _, rfl, ⟨h.xroom, rfl, by show k.steps ≤ i + 1; omega⟩, Or.inr ⟨rfl, rfl⟩⟩
    | succ n => exact ⟨_, _, rfl, ⟨h.xroom, rfl, by show k.steps + 1 ≤ i + 1; omega⟩, Or.inl ⟨rfl, on⟩⟩
theorem SSt.rest {k : Dk} {A B : List Int} {i : Nat} (h : SSt k A B i) (kp : List Int) :
    ∃ j, A.length ≤ j ∧ j ≤ A.length + B.length ∧ (restK k kp).fs = [(sG, ⟨(A ++ B).take j, j⟩)] ∧ (restK k kp).off = false ∧ (restK k kp).steps ≤ i ∧ (restK k kp).fu = none := by
  have hs := h.xsteps
  unfold restK
  rw [h.xfs]
  by_cases h0 : (A ++ B).length = A.length
  · refine ⟨A.length, Nat.le_refl _, by omega, ?_, rfl, hs, rfl⟩
    show restL [(sG, ⟨A ++ B, A.length⟩)] kp = _
    unfold restL
    rw [if_pos h0]
    have : B = [] := List.eq_nil_of_length_eq_zero (by rw [List.length_append] at h0; omega)
    subst this
    simp [restL]
  · obtain ⟨q, hq, hq2⟩ : ∃ q : Nat, ((max (kp.headD 0) 0) % ((((A ++ B).length - A.length : Nat) : Int) + 1)).toNat = q ∧ q ≤ (A ++ B).length - A.length := by
      refine ⟨_, rfl, ?_⟩
      have h2 := Int.emod_lt_of_pos (max (kp.headD 0) 0) (show 0 < (((A ++ B).length - A.length : Nat) : Int) + 1 by omega)
      omega
    have hAB : (A ++ B).length = A.length + B.length := List.length_append
    refine ⟨A.length + q, by omega, by omega, ?_, rfl, hs, rfl⟩
    show restL [(sG, ⟨A ++ B, A.length⟩)] kp = _
    unfold restL
    rw [if_neg h0]
    unfold restF
    dsimp only
    rw [hq]
    rfl
theorem readG {k : Dk} {f : Fle} (on : k.off = false) (h : k.fs = [(sG, f)]) : readK k sG = (0, f.b) := by
  unfold readK
  rw [on, nmG, h]
  rfl
theorem restG {k : Dk} {f : Fle} (h : k.fs = [(sG, f)]) (hs : f.b.length = f.safe) : (restK k []).fs = [(sG, f)] ∧ (restK k []).off = false := by
  unfold restK
  rw [h]
  refine ⟨?_, rfl⟩
  show restL [(sG, f)] [] = _
  unfold restL
  rw [if_pos hs]
  rfl
theorem irn (w : World) : IRd w 0 (.slice none 0 0) [] := ⟨none, 0, rfl, Nat.le_refl _, by omega, fun h => absurd rfl h⟩

set_option maxRecDepth 100000 in
set_option maxHeartbeats 30000000 in
theorem diskSafe_any (a0 : Option Addr) (n0 c0 : Nat) (xs : List Int) (b0 : Option Addr) (m0 e0 : Nat) (ys : List (List Int)) (fu : Int) (f0 : Option Addr) (p0 q0 : Nat) (zs : List Int) (W : World) (hR : Rd W a0 n0 c0 xs) (hM : RRd W b0 m0 ys) (hK : IAr W f0 p0 q0 zs) :
    Calls Try.prog 4 #[.agg #[.slice a0 n0 c0, .slice b0 m0 e0, .int .i64 fu, .slice f0 p0 q0]] W fun e w' => e = .returned (.bool true) ∧ Below W.heap.size W w' := by
  obtain ⟨fm, hfm, hf30⟩ := tm30 fu
  have hmm := hM.most
  go_enter Try.func4, Try.ntmps4
  go_upto_region 1 with fail
  have hB0 : Below W.heap.size W (W.alloc (.cells #[.slice a0 n0 c0, .slice b0 m0 e0, .int .i64 fu, .slice f0 p0 q0] 42)) := (Below.refl _ _).alloc (Nat.le_refl _) _
  go_quiet (fail)
  have hB1 : Below W.heap.size W ((W.alloc (.cells #[.slice a0 n0 c0, .slice b0 m0 e0, .int .i64 fu, .slice f0 p0 q0] 42)).drewN nq) := ⟨hB0.os, hB0.tape, hB0.output, hB0.size, hB0.block⟩
  clear hB0
  generalize (W.alloc (.cells #[.slice a0 n0 c0, .slice b0 m0 e0, .int .i64 fu, .slice f0 p0 q0] 42)).drewN nq = w0 at *
  have hN := new_ok 100000 (by omega) w0
  go_upto_region 3 with (first
    | (go_at_call 7; refine hN.mono ?_; rintro e w1 ⟨d, rfl, ⟨F1, hD1, hF1⟩, hb1⟩))
  have hB2 : Below W.heap.size W w1 := hB1.trans (hb1.mono hB1.size)
  have hF1' : ∀ i, F1 i → W.heap.size ≤ i := fun i hi => by have := hF1 i hi; have := hB1.size; omega
  clear hN hb1 hF1 hB1
  go_upto_region 5 with (first
    | (go_at_call 9; refine (wakes_any _).mono ?_; rintro e w3 ⟨rfl, hb3⟩))
  have hB3 : Below W.heap.size W w3 := hB2.trans (hb3.mono hB2.size)
  have hD3 := hD1.below hb3
  clear hb3 hB2 hD1
  have hfew := fewO a0 n0 c0 xs w3 (hR.carry (Nat.le_refl _) hB3)
  go_upto_region 6 with (first
    | (go_at_call 12; refine hfew.mono ?_; rintro e w4 ⟨aa, na, ca, rfl, hna, oa, ra, hb4⟩))
  have hB4 : Below W.heap.size W w4 := hB3.trans (hb4.mono hB3.size)
  have hD4 := hD3.below hb4
  have haF : Apt F1 (.slice aa na ca) := Apt.new oa hD3.lt
  obtain ⟨A, HA⟩ : ∃ A, Hid (xs.take 100 = A) := ⟨_, rfl⟩
  rw [HA.out] at oa ra
  have hAl := ra.len
  have hAb := ra.bytes
  have oa4 : w4.ownsRow W.heap.size 5 1 (.slice aa na ca) na (bc A) := own_weak oa hB3.size
  have hA100 : A.take 100 = A := List.take_of_length_le (by omega)
  have hfew2 := fewO aa na ca A w4 ra
  rw [hA100] at hfew2
  clear hfew oa hb4 hD3 hA100 HA
  have hA1 := fun w hD a n c hn hR => append_any d F1 (newK 100000) sG a n c A (by decide) (by decide) hn w hD hR
  obtain ⟨k1, hk1, hst1, hon1⟩ : ∃ k1, appK (newK 100000) sG A = (0, k1) ∧ k1 = ⟨100000, [(sG, ⟨[] ++ A, 0⟩)], 1, false, none⟩ ∧ True := by
    refine ⟨_, ?_, rfl, trivial⟩
    unfold appK
    rw [nmG, if_neg (by decide), if_neg (by decide), if_neg (not_not_intro (by show A.length + 0 ≤ 100000; omega))]
    rfl
  rw [hk1] at hA1
  unfold sG at hA1
  go_upto_region 7 with (first
    | (go_at_call 12; refine hfew2.mono ?_; rintro e w5 ⟨a5, n5, c5, rfl, hn5, o5, r5, hb5⟩)
    | (go_at_call 13; refine (hA1 _ (hD4.below hb5) a5 n5 c5 (by omega) r5).mono ?_; rintro e w6 ⟨rfl, F6, hD6, hk6, hF6⟩))
  have hB5 := hB4.trans (hb5.mono hB4.size)
  have hB6 : Below W.heap.size W w6 := hB5.trans (hk6.low hB5.size hF1')
  have hF6' : ∀ i, F6 i → W.heap.size ≤ i := fun i hi => (hF6 i hi).elim (hF1' i) (fun h => by have := hB5.size; omega)
  have oa5 := own_keep (S := fun _ => False) oa4 (Keep.ofBelow hb5) (fun _ _ h => h)
  have oa6 := own_keep oa5 hk6 haF
  have haF6 := haF.next oa5 hF6
  clear hfew2 hA1 hk1 ra r5 o5 hb5 hk6 hF6 haF oa4 oa5 hD4 hF1' hB5 hB4 hn5
  have hS1 := sync_any d F6 k1 sG (by rw [hst1]; show 1 < 1000000; omega) (by rw [hst1]; show 1 < 1000000; omega) w6 hD6
  obtain ⟨k2, hk2, hst2⟩ : ∃ k2, syncK k1 sG = (0, k2) ∧ k2 = ⟨100000, [(sG, ⟨[] ++ A, ([] ++ A).length⟩)], 2, false, none⟩ := by
    refine ⟨_, ?_, rfl⟩
    rw [hst1]
    unfold syncK stepK
    rw [nmG]
    rfl
  rw [hk2] at hS1
  unfold sG at hS1
  clear hst1
  go_upto_region 9 with (first
    | (go_at_call 14; refine hS1.mono ?_; rintro e w7 ⟨rfl, F7, hD7, hk7, hF7⟩))
  have hB7 : Below W.heap.size W w7 := hB6.trans (hk7.low hB6.size hF6')
  have hF7' : ∀ i, F7 i → W.heap.size ≤ i := fun i hi => (hF7 i hi).elim (hF6' i) (fun h => by have := hB6.size; omega)
  have oa7 := own_keep oa6 hk7 haF6
  have haF7 := haF6.next oa6 hF7
  clear hS1 hk2 hk7 hF7 haF6 oa6 hD6 hF6' hB6
  have hFz := fuse_any d F7 k2 (fm : Int) (by omega) w7 hD7
  obtain ⟨k3, hk3, hst3⟩ : ∃ k3, fuseK k2 (fm : Int) = (0, k3) ∧ SSt k3 A [] 2 ∧ k3.off = false := by
    refine ⟨⟨100000, [(sG, ⟨[] ++ A, ([] ++ A).length⟩)], 2, false, some ((fm : Int)).toNat⟩, ?_, ?_⟩
    · rw [hst2]; unfold fuseK; rw [if_neg (by omega)]; rfl
    · exact ⟨⟨rfl, by simp, Nat.le_refl _⟩, rfl⟩
  rw [hk3] at hFz
  clear hst2
  go_wp2_with (first
    | (go_at_call 15; refine hFz.mono ?_; rintro e w8 ⟨rfl, F8, hD8, hk8, hF8⟩))
  have hB8 : Below W.heap.size W w8 := hB7.trans (hk8.low hB7.size hF7')
  have hF8' : ∀ i, F8 i → W.heap.size ≤ i := fun i hi => (hF8 i hi).elim (hF7' i) (fun h => by have := hB7.size; omega)
  have oa8 := own_keep oa7 hk8 haF7
  have haF8 := haF7.next oa7 hF8
  clear hFz hk3 hk8 hF8 haF7 oa7 hD7 hF7' hB7
  go_loopw [10, 11, 12] (fun s10 s11 _ wr => ∃ (i : Nat) (k : Dk) (F : Nat → Prop) (B : List Int) (al : Option Addr) (nl cl : Nat), s11 = .int .i64 i ∧ s10 = .slice al nl cl ∧ i ≤ m0 ∧ i ≤ 40 ∧ Hid (nl ≤ 100 * i) ∧ Hid (SSt k A B (2 + i)) ∧ Hid (k.off = false) ∧ Hid (Bd B) ∧ Hid (DiskAt wr F d k) ∧ Hid (∀ j, F j → W.heap.size ≤ j) ∧ Hid (Below W.heap.size W wr) ∧ Hid (wr.ownsRow W.heap.size 5 1 (.slice aa na ca) na (bc A)) ∧ Hid (Apt F (.slice aa na ca)) ∧ Hid (wr.ownsRow W.heap.size 5 1 (.slice al nl cl) nl (bc B)) ∧ Hid (Apt F (.slice al nl cl)) ∧ Hid (∀ g, (Value.slice aa na ca).ownBlock = some g → (Value.slice al nl cl).ownBlock ≠ some g)) (fun _ s11 _ _ => 40 - (intOf s11).toNat)
  case atStart => exact ⟨0, k3, F8, [], none, 0, 0, rfl, rfl, by omega, by omega, by show 0 ≤ _; omega, hst3.1, hst3.2, Bd.nil, hD8, hF8', hB8, oa8, haF8, ⟨rfl, Or.inl ⟨rfl, rfl⟩⟩, (fun g hg => by cases hg), (fun g _ h => by cases h)⟩
  case round =>
    clear hst3 hD8 hF8' hB8 oa8 haF8
    obtain ⟨i, k, F, B, al, nl, cl, rfl, rfl, him, hi40, HN, HS, HO, HBd, HD, HF, HB, HA, HAF, HL, HLF, HAL⟩ := hrel
    have hnl := HN.out
    have hBl0 : B.length = nl := by have := HL.out.1; simpa [bc] using this
    have hBl : Hid (B.length = nl) := hBl0
    clear hBl0
    by_cases hlt : i < m0
    · have hcl : (i : Int) < (m0 : Int) := by omega
      by_cases hl40 : i < 40
      · have hcl40 : (i : Int) < 40 := by omega
        obtain ⟨b, off, rfl, hce⟩ := hM.flat (by omega)
        obtain ⟨aj, nj, cj, hcj, hrj⟩ := hce i hlt
        clear hce
        have hat : ∀ w', Below W.heap.size W w' → w'.cell? ⟨b, off + i, none⟩ = some (.slice aj nj cj) ∧ Rd w' aj nj cj (ys.getD i []) := fun w' hb => ⟨(hb.cell (p := ⟨b, off + i, none⟩) (World.block_lt_of_cell? W _ hcj)).trans hcj, hrj.carry (Nat.le_refl _) hb⟩
        clear hcj hrj
        obtain ⟨Y, HY⟩ : ∃ Y, Hid ((ys.getD i []).take 100 = Y) := ⟨_, rfl⟩
        have hYl : Y.length ≤ 100 := by rw [← HY.out, List.length_take]; omega
        obtain ⟨en, k9, hap, hS9, hcase⟩ := HS.out.app HO.out Y (by have := hBl.out; omega)
        have hAf := fun w hD a n c hn hR => append_any d F k sG a n c Y (by have := HS.out.xsteps; omega) (by rw [HS.out.xfs]; show 1 < 1000000; omega) hn w hD hR
        rw [hap] at hAf
        unfold sG at hAf
        have hc1 := (hat _ HB.out).1
        have hr1 := (hat _ HB.out).2
        have hfw := fewO aj nj cj _ wr hr1
        rw [HY.out] at hfw
        go_upto_region 15 with (first
          | (go_at_call 12; refine hfw.mono ?_; rintro e w9 ⟨a9, n9, c9, rfl, hn9, o9, r9, hb9⟩)
          | (go_at_call 13; refine (hAf _ (HD.out.below hb9) a9 n9 c9 (by omega) r9).mono ?_; rintro e w10 ⟨rfl, F10, hD10, hk10, hF10⟩))
        have hB9 := HB.out.trans (hb9.mono HB.out.size)
        have hB10 : Below W.heap.size W w10 := hB9.trans (hk10.low hB9.size HF.out)
        have hF10' : ∀ j, F10 j → W.heap.size ≤ j := fun j hj => (hF10 j hj).elim (HF.out j) (fun h => by have := hB9.size; omega)
        have oa9 := own_keep (S := fun _ => False) HA.out (Keep.ofBelow hb9) (fun _ _ h => h)
        have oa10 := own_keep oa9 hk10 HAF.out
        have haF10 := HAF.out.next oa9 hF10
        have ol9 := own_keep (S := fun _ => False) HL.out (Keep.ofBelow hb9) (fun _ _ h => h)
        have ol10 := own_keep ol9 hk10 HLF.out
        have hlF10 := HLF.out.next ol9 hF10
        have hc10 := (hat _ hB10).1
        have hr10 := (hat _ hB10).2
        have hfw2 := fewO aj nj cj _ w10 hr10
        rw [HY.out] at hfw2
        have hl10 : F10 d := hD10.fd
        clear hfw hAf hap r9 o9 hb9 hk10 hF10 oa9 ol9 hB9 hc1 hr1 HA HAF HL HLF HD HF HB hat
        go_upto_region 16 with (first
          | (go_at_call 12; refine hfw2.mono ?_; rintro e w11 ⟨a11, n11, c11, rfl, hn11, o11, r11, hb11⟩; have ol11 := own_keep (S := fun _ => False) ol10 (Keep.ofBelow hb11) (fun _ _ h => h))
          | (at_builtin; refine wp_appK rfl _ _ rfl W.heap.size (.slice al nl cl) nl B rfl ol11 a11 n11 c11 Y rfl r11 (by omega) (by have := hB10.size; have := hb11.size; omega) ?_; intro v' w12 ol12 hgr12 hwh12; obtain ⟨al2, cl2, rfl⟩ : ∃ al2 cl2, v' = .slice al2 (nl + n11) cl2 := (by rcases ol12.2 with ⟨h1, h2⟩ | ⟨g, cap, cur, h1, _⟩ <;> rw [h1] <;> first | exact ⟨_, _, rfl⟩ | (rw [h2]; exact ⟨_, _, rfl⟩))))
        have hk12 := Keep.ofGrown hgr12
        have hB11 := hB10.trans (hb11.mono hB10.size)
        have hB12 : Below W.heap.size W w12 := hB11.trans (hk12.below hB11.size (fun j hj => (ol11.lt j hj).1))
        have hD11 := hD10.below hb11
        have hlF11 : Apt F10 (.slice al nl cl) := hlF10
        have hD12 : DiskAt w12 F10 d k9 := hD11.keep hk12 (fun j hj e => hlF11 j e hj)
        have oa11 := own_keep (S := fun _ => False) oa10 (Keep.ofBelow hb11) (fun _ _ h => h)
        have oa12 := own_keep oa11 hk12 (fun g hg e => HAL.out g hg e)
        have hlF12 : Apt F10 (.slice al2 (nl + n11) cl2) := fun g hg hf => by
          rcases hwh12 with h | h
          · rw [hg] at h; exact hlF11 g h.symm hf
          · rw [hg] at h
            have := hD11.lt g hf
            cases h
            omega
        have hAL12 : ∀ g, (Value.slice aa na ca).ownBlock = some g → (Value.slice al2 (nl + n11) cl2).ownBlock ≠ some g := fun g hg hg2 => by
          rcases hwh12 with h | h
          · exact HAL.out g hg (h.symm.trans hg2)
          · rw [hg2] at h
            have := (oa11.lt g hg).2
            cases h
            omega
        have hBd12 : Bd (B ++ Y) := HBd.out.append r11.bytes
        have hn12 : nl + n11 ≤ 100 * (i + 1) := by omega
        have hS12 : SSt k9 A (B ++ Y) (2 + (i + 1)) := hS9
        clear hfw2 oa11 ol11 oa10 ol10 hb11 hgr12 hk12 hwh12 hlF10 hlF11 hD10 hD11 hB10 hB11 r11 o11 HAL HBd HS hc10 hr10
        rcases hcase with ⟨rfl, hon⟩ | ⟨rfl, hoff⟩
        · go_wp2
          exact ⟨⟨i + 1, k9, F10, B ++ Y, al2, nl + n11, cl2, by go_num, rfl, by omega, by omega, hn12, hS12, hon, hBd12, hD12, hF10', hB12, oa12, haF10, ol12, hlF12, hAL12⟩, by simp [intOf]; omega⟩
        · obtain ⟨nl2, hnl2⟩ : ∃ nl2, nl + n11 = nl2 := ⟨_, rfl⟩
          rw [hnl2] at ol12 hlF12 hAL12 hn12 ⊢
          have hnl4 : nl2 ≤ 4000 := by omega
          have hir := ints_any f0 p0 q0 zs w12 (hK.carry hB12)
          have hstp : k9.steps ≤ 42 := by have := hS12.xsteps; omega
          clear hnl2
          obtain ⟨j, hj1, hj2, hrfs, hroff, hrst, hrfu⟩ := (hS12).rest (zs.take 30)
          have hRs := fun w hD bk v hI hb => restart_any d F10 k9 bk v (zs.take 30) (by rw [(hS12).xfs]; show 1 < 1000000; omega) w hD hI hb
          have hBlen : (B ++ Y).length = nl2 := by have := (ol12).1; simpa [bc] using this
          have hS' := hS12
          clear hM hR
          go_upto_region 18 with (first
            | (go_at_call 17; refine hir.mono ?_; rintro e w20 ⟨v20, g20, rfl, hI20, hg20, hb20⟩)
            | (go_at_call 16; refine (hRs _ ((hD12).below hb20) g20 v20 hI20 (fun _ h => by have := (hD12).lt _ h; omega)).mono ?_; rintro e w21 ⟨rfl, F21, hD21, hk21, hF21⟩))
          have hB20 := (hB12).trans (hb20.mono (hB12).size)
          have hB21 : Below W.heap.size W w21 := hB20.trans (hk21.low hB20.size (hF10'))
          have hF21' : ∀ i, F21 i → W.heap.size ≤ i := fun i hi => (hF21 i hi).elim ((hF10') i) (fun h => by have := hB20.size; omega)
          have oa20 := own_keep (S := fun _ => False) (oa12) (Keep.ofBelow hb20) (fun _ _ h => h)
          have oa21 := own_keep oa20 hk21 (haF10)
          have haF21 := (haF10).next oa20 hF21
          have ol20 := own_keep (S := fun _ => False) (ol12) (Keep.ofBelow hb20) (fun _ _ h => h)
          have ol21 := own_keep ol20 hk21 (hlF12)
          have hlF21 := (hlF12).next ol20 hF21
          obtain ⟨k21, hk21e⟩ : ∃ k21, restK k9 (zs.take 30) = k21 := ⟨_, rfl⟩
          rw [hk21e] at hrfs hroff hrst hrfu hD21
          have hRd := read_any d F21 k21 sG w21 hD21
          rw [readG hroff hrfs] at hRd
          clear hk21e hir hRs hI20 hb20 hk21 hF21 oa20 ol20 hB20
          dsimp only at hRd
          unfold sG at hRd
          obtain ⟨bs, Hbs⟩ : ∃ bs, Hid ((A ++ (B ++ Y)).take j = bs) := ⟨_, rfl⟩
          rw [Hbs.out] at hRd hrfs
          have hbsl : bs.length = j := by rw [← Hbs.out, List.length_take, List.length_append]; omega
          have hbsb : Bd bs := by rw [← Hbs.out]; exact (hAb.append (hBd12)).take j
          rw [hbsl] at hRd
          have Hbl : Hid (bs.length = j) := hbsl
          go_upto_region 19 with (first
            | (go_at_call 18; refine hRd.mono ?_; rintro e w22 ⟨v22, rfl, ob22, hb22⟩; obtain ⟨ab, cb, rfl, rb22⟩ := Rd.ofOwn (n := j) ob22 hbsb))
          have hB22 := hB21.trans (hb22.mono hB21.size)
          have hD22 := hD21.below hb22
          have oa22 := own_keep (S := fun _ => False) oa21 (Keep.ofBelow hb22) (fun _ _ h => h)
          have ol22 := own_keep (S := fun _ => False) ol21 (Keep.ofBelow hb22) (fun _ _ h => h)
          have hbF22 : Apt F21 (.slice ab j cb) := Apt.new ob22 hD21.lt
          have ra22 : Rd w22.drew aa na ca A := (Rd.ofRow oa22 hAb).keep (S := fun _ => False) ((Keep.refl _ _).drew) (fun _ _ h => h)
          have rl22 : Rd w22.drew al2 nl2 cl2 (B ++ Y) := (Rd.ofRow ol22 (hBd12)).keep (S := fun _ => False) ((Keep.refl _ _).drew) (fun _ _ h => h)
          have rb22' : Rd w22.drew ab j cb bs := rb22.keep (S := fun _ => False) ((Keep.refl _ _).drew) (fun _ _ h => h)
          have hcb := rb22.cap
          have hcbm : cb ≤ 9223372036854775807 := rb22.most
          have ob22' : w22.ownsRow W.heap.size 5 1 (.slice ab j cb) j (bc bs) := own_weak ob22 hB21.size
          clear hRd ob22 oa21 ol21 hb22 hD21 hB21 haF21 hlF21
          have hst1 : (convert 31 9 (.slice ab na cb)).run Try.prog w22.drew = .ok (.string (strOfNums A)) w22.drew := by
            have h := (rb22'.takeK (show na ≤ j by omega)).string
            have e : bs.take na = A := by rw [← Hbs.out, List.take_take, Nat.min_eq_left (by omega), List.take_append_of_le_length (by omega), List.take_of_length_le (by omega)]
            rw [e] at h
            exact h
          have hst2 := ra22.string
          have hlnb := len_slice ab j cb 31 3 w22.drew Try.underlying31
          have hlna := len_slice aa na ca 31 3 w22.drew Try.underlying31
          have hlnl := len_slice al2 nl2 cl2 31 3 w22.drew Try.underlying31
          have hc1 : decide ((j : Int) < (na : Int)) = false := by simp; omega
          have hc2 : decide ((na : Int) + (nl2 : Int) < (j : Int)) = false := by simp; omega
          have hw1 : IntKind.i64.wrap ((na : Int) + (nl2 : Int)) = (na : Int) + (nl2 : Int) := by rw [IntKind.wrap_i64]; omega
          have hsl : (na : Int) ≤ (cb : Int) := by omega
          have hnj : na ≤ j := by omega
          obtain ⟨SA, HSA⟩ : ∃ SA, Hid (strOfNums A = SA) := ⟨_, rfl⟩
          rw [HSA.out] at hst1 hst2
          have hBX : Below W.heap.size W w22.drew := hB22.drew
          have hDX : DiskAt w22.drew F21 d k21 := hD22.keep (S := fun _ => False) ((Keep.refl _ _).drew) (fun _ _ h => h)
          have oaX : w22.drew.ownsRow W.heap.size 5 1 (.slice aa na ca) na (bc A) := own_keep (S := fun _ => False) oa22 ((Keep.refl _ _).drew) (fun _ _ h => h)
          have olX : w22.drew.ownsRow W.heap.size 5 1 (.slice al2 nl2 cl2) nl2 (bc (B ++ Y)) := own_keep (S := fun _ => False) ol22 ((Keep.refl _ _).drew) (fun _ _ h => h)
          have obX : w22.drew.ownsRow W.heap.size 5 1 (.slice ab j cb) j (bc bs) := own_keep (S := fun _ => False) ob22' ((Keep.refl _ _).drew) (fun _ _ h => h)
          clear hB22 hD22 oa22 ol22 ob22' rb22
          refine wp_region_lx (fun w' => w' = w22.drew) [] 29 (by kernel_rfl) (by kernel_rfl) ?_
          generalize w22.drew = X at *
          have HSP : X = X := rfl
          refine lx_rd 0 ?vPa0 (by kernel_rfl) (fun _ _ d _ _ h => by cases d <;> exact h) (by kernel_rfl) HSP rfl rfl rfl (fun w' hS => ?hPa0) ?_
          case hPa0 => first | (go_simp; rfl) | go_simp
          simp only [List.setIfInBounds_toArray, List.set_cons_zero, List.set_cons_succ]
          refine lx_rd 1 (.bool false) (by kernel_rfl) (fun _ _ d _ _ h => by cases d <;> exact h) (by kernel_rfl) HSP rfl rfl rfl (fun w' hS => ?hPa1) ?_
          case hPa1 => first | (go_simp; rfl) | go_simp
          simp only [List.setIfInBounds_toArray, List.set_cons_zero, List.set_cons_succ]
          refine lx_rd 2 ?vPa2 (by kernel_rfl) (fun _ _ d _ _ h => by cases d <;> exact h) (by kernel_rfl) HSP rfl rfl rfl (fun w' hS => ?hPa2) ?_
          case hPa2 => first | (go_simp; rfl) | go_simp
          simp only [List.setIfInBounds_toArray, List.set_cons_zero, List.set_cons_succ]
          refine lx_rd 3 ?vPa3 (by kernel_rfl) (fun _ _ d _ _ h => by cases d <;> exact h) (by kernel_rfl) HSP rfl rfl rfl (fun w' hS => ?hPa3) ?_
          case hPa3 => first | (go_simp; rfl) | go_simp
          simp only [List.setIfInBounds_toArray, List.set_cons_zero, List.set_cons_succ]
          refine lx_rd 4 (.int .i64 j) (by kernel_rfl) (fun _ _ d _ _ h => by cases d <;> exact h) (by kernel_rfl) HSP rfl rfl rfl (fun w' hS => ?hPa4) ?_
          case hPa4 => subst hS; first | (go_simp; rfl) | go_simp
          simp only [List.setIfInBounds_toArray, List.set_cons_zero, List.set_cons_succ]
          refine lx_rd 5 ?vPa5 (by kernel_rfl) (fun _ _ d _ _ h => by cases d <;> exact h) (by kernel_rfl) HSP rfl rfl rfl (fun w' hS => ?hPa5) ?_
          case hPa5 => first | (go_simp; rfl) | go_simp
          simp only [List.setIfInBounds_toArray, List.set_cons_zero, List.set_cons_succ]
          refine lx_rd 6 (.int .i64 na) (by kernel_rfl) (fun _ _ d _ _ h => by cases d <;> exact h) (by kernel_rfl) HSP rfl rfl rfl (fun w' hS => ?hPa6) ?_
          case hPa6 => subst hS; first | (go_simp; rfl) | go_simp
          simp only [List.setIfInBounds_toArray, List.set_cons_zero, List.set_cons_succ]
          refine lx_rd 7 (.bool false) (by kernel_rfl) (fun _ _ d _ _ h => by cases d <;> exact h) (by kernel_rfl) HSP rfl rfl rfl (fun w' hS => ?hPa7) ?_
          case hPa7 => first | (go_simp; rfl) | go_simp
          simp only [List.setIfInBounds_toArray, List.set_cons_zero, List.set_cons_succ]
          refine lx_rd 8 (.bool false) (by kernel_rfl) (fun _ _ d _ _ h => by cases d <;> exact h) (by kernel_rfl) HSP rfl rfl rfl (fun w' hS => ?hPa8) ?_
          case hPa8 => first | (go_simp; rfl) | go_simp
          simp only [List.setIfInBounds_toArray, List.set_cons_zero, List.set_cons_succ]
          refine lx_rd 9 ?vPa9 (by kernel_rfl) (fun _ _ d _ _ h => by cases d <;> exact h) (by kernel_rfl) HSP rfl rfl rfl (fun w' hS => ?hPa9) ?_
          case hPa9 => first | (go_simp; rfl) | go_simp
          simp only [List.setIfInBounds_toArray, List.set_cons_zero, List.set_cons_succ]
          refine lx_rd 10 ?vPa10 (by kernel_rfl) (fun _ _ d _ _ h => by cases d <;> exact h) (by kernel_rfl) HSP rfl rfl rfl (fun w' hS => ?hPa10) ?_
          case hPa10 => first | (go_simp; rfl) | go_simp
          simp only [List.setIfInBounds_toArray, List.set_cons_zero, List.set_cons_succ]
          refine lx_rd 11 ?vPa11 (by kernel_rfl) (fun _ _ d _ _ h => by cases d <;> exact h) (by kernel_rfl) HSP rfl rfl rfl (fun w' hS => ?hPa11) ?_
          case hPa11 => first | (go_simp; rfl) | go_simp
          simp only [List.setIfInBounds_toArray, List.set_cons_zero, List.set_cons_succ]
          refine lx_rd 12 (.int .i64 na) (by kernel_rfl) (fun _ _ d _ _ h => by cases d <;> exact h) (by kernel_rfl) HSP rfl rfl rfl (fun w' hS => ?hPa12) ?_
          case hPa12 => subst hS; first | (go_simp; rfl) | go_simp
          simp only [List.setIfInBounds_toArray, List.set_cons_zero, List.set_cons_succ]
          refine lx_rd 13 (.slice ab na cb) (by kernel_rfl) (fun _ _ d _ _ h => by cases d <;> exact h) (by kernel_rfl) HSP rfl rfl rfl (fun w' hS => ?hPa13) ?_
          case hPa13 => first | (go_simp; rfl) | go_simp
          simp only [List.setIfInBounds_toArray, List.set_cons_zero, List.set_cons_succ]
          refine lx_rd 14 (.string SA) (by kernel_rfl) (fun _ _ d _ _ h => by cases d <;> exact h) (by kernel_rfl) HSP rfl rfl rfl (fun w' hS => ?hPa14) ?_
          case hPa14 => subst hS; first | (go_simp; rfl) | go_simp
          simp only [List.setIfInBounds_toArray, List.set_cons_zero, List.set_cons_succ]
          refine lx_rd 15 ?vPa15 (by kernel_rfl) (fun _ _ d _ _ h => by cases d <;> exact h) (by kernel_rfl) HSP rfl rfl rfl (fun w' hS => ?hPa15) ?_
          case hPa15 => first | (go_simp; rfl) | go_simp
          simp only [List.setIfInBounds_toArray, List.set_cons_zero, List.set_cons_succ]
          refine lx_rd 16 (.string SA) (by kernel_rfl) (fun _ _ d _ _ h => by cases d <;> exact h) (by kernel_rfl) HSP rfl rfl rfl (fun w' hS => ?hPa16) ?_
          case hPa16 => subst hS; first | (go_simp; rfl) | go_simp
          simp only [List.setIfInBounds_toArray, List.set_cons_zero, List.set_cons_succ]
          refine lx_rd 17 (.bool false) (by kernel_rfl) (fun _ _ d _ _ h => by cases d <;> exact h) (by kernel_rfl) HSP rfl rfl rfl (fun w' hS => ?hPa17) ?_
          case hPa17 => first | (go_simp; rfl) | go_simp
          simp only [List.setIfInBounds_toArray, List.set_cons_zero, List.set_cons_succ]
          refine lx_rd 18 (.bool false) (by kernel_rfl) (fun _ _ d _ _ h => by cases d <;> exact h) (by kernel_rfl) HSP rfl rfl rfl (fun w' hS => ?hPa18) ?_
          case hPa18 => first | (go_simp; rfl) | go_simp
          simp only [List.setIfInBounds_toArray, List.set_cons_zero, List.set_cons_succ]
          refine lx_rd 19 ?vPa19 (by kernel_rfl) (fun _ _ d _ _ h => by cases d <;> exact h) (by kernel_rfl) HSP rfl rfl rfl (fun w' hS => ?hPa19) ?_
          case hPa19 => first | (go_simp; rfl) | go_simp
          simp only [List.setIfInBounds_toArray, List.set_cons_zero, List.set_cons_succ]
          refine lx_rd 20 ?vPa20 (by kernel_rfl) (fun _ _ d _ _ h => by cases d <;> exact h) (by kernel_rfl) HSP rfl rfl rfl (fun w' hS => ?hPa20) ?_
          case hPa20 => first | (go_simp; rfl) | go_simp
          simp only [List.setIfInBounds_toArray, List.set_cons_zero, List.set_cons_succ]
          refine lx_rd 21 (.int .i64 j) (by kernel_rfl) (fun _ _ d _ _ h => by cases d <;> exact h) (by kernel_rfl) HSP rfl rfl rfl (fun w' hS => ?hPa21) ?_
          case hPa21 => subst hS; first | (go_simp; rfl) | go_simp
          simp only [List.setIfInBounds_toArray, List.set_cons_zero, List.set_cons_succ]
          refine lx_rd 22 ?vPa22 (by kernel_rfl) (fun _ _ d _ _ h => by cases d <;> exact h) (by kernel_rfl) HSP rfl rfl rfl (fun w' hS => ?hPa22) ?_
          case hPa22 => first | (go_simp; rfl) | go_simp
          simp only [List.setIfInBounds_toArray, List.set_cons_zero, List.set_cons_succ]
          refine lx_rd 23 (.int .i64 na) (by kernel_rfl) (fun _ _ d _ _ h => by cases d <;> exact h) (by kernel_rfl) HSP rfl rfl rfl (fun w' hS => ?hPa23) ?_
          case hPa23 => subst hS; first | (go_simp; rfl) | go_simp
          simp only [List.setIfInBounds_toArray, List.set_cons_zero, List.set_cons_succ]
          refine lx_rd 24 ?vPa24 (by kernel_rfl) (fun _ _ d _ _ h => by cases d <;> exact h) (by kernel_rfl) HSP rfl rfl rfl (fun w' hS => ?hPa24) ?_
          case hPa24 => first | (go_simp; rfl) | go_simp
          simp only [List.setIfInBounds_toArray, List.set_cons_zero, List.set_cons_succ]
          refine lx_rd 25 (.int .i64 nl2) (by kernel_rfl) (fun _ _ d _ _ h => by cases d <;> exact h) (by kernel_rfl) HSP rfl rfl rfl (fun w' hS => ?hPa25) ?_
          case hPa25 => subst hS; first | (go_simp; rfl) | go_simp
          simp only [List.setIfInBounds_toArray, List.set_cons_zero, List.set_cons_succ]
          refine lx_rd 26 (.int .i64 ((na : Int) + nl2)) (by kernel_rfl) (fun _ _ d _ _ h => by cases d <;> exact h) (by kernel_rfl) HSP rfl rfl rfl (fun w' hS => ?hPa26) ?_
          case hPa26 => first | (go_simp; rfl) | go_simp
          simp only [List.setIfInBounds_toArray, List.set_cons_zero, List.set_cons_succ]
          refine lx_rd 27 (.bool false) (by kernel_rfl) (fun _ _ d _ _ h => by cases d <;> exact h) (by kernel_rfl) HSP rfl rfl rfl (fun w' hS => ?hPa27) ?_
          case hPa27 => first | (go_simp; rfl) | go_simp
          simp only [List.setIfInBounds_toArray, List.set_cons_zero, List.set_cons_succ]
          refine lx_rd 28 (.bool false) (by kernel_rfl) (fun _ _ d _ _ h => by cases d <;> exact h) (by kernel_rfl) HSP rfl rfl rfl (fun w' hS => ?hPa28) ?_
          case hPa28 => first | (go_simp; rfl) | go_simp
          simp only [List.setIfInBounds_toArray, List.set_cons_zero, List.set_cons_succ]
          refine lx_nil (by kernel_rfl) ?_
          clear HSP hst1 hst2 hlnb hlna hlnl hc1 hc2 hw1 ra22 rl22 rb22'
          go_upto_region 21 with fail
          have hBY : Below W.heap.size W X.drew := hBX.drew
          have hDY : DiskAt X.drew F21 d k21 := hDX.keep (S := fun _ => False) ((Keep.refl _ _).drew) (fun _ _ h => h)
          have oaY : X.drew.ownsRow W.heap.size 5 1 (.slice aa na ca) na (bc A) := own_keep (S := fun _ => False) oaX ((Keep.refl _ _).drew) (fun _ _ h => h)
          have olY : X.drew.ownsRow W.heap.size 5 1 (.slice al2 nl2 cl2) nl2 (bc (B ++ Y)) := own_keep (S := fun _ => False) olX ((Keep.refl _ _).drew) (fun _ _ h => h)
          have obY : X.drew.ownsRow W.heap.size 5 1 (.slice ab j cb) j (bc bs) := own_keep (S := fun _ => False) obX ((Keep.refl _ _).drew) (fun _ _ h => h)
          refine wp_region_lx (fun w' => Below X.drew.heap.size X.drew w') [] 11 (by kernel_rfl) (by kernel_rfl) ?_
          generalize X.drew = Yw at *
          clear hBX hDX oaX olX obX
          have raY : Rd Yw aa na ca A := Rd.ofRow oaY hAb
          have rlY : Rd Yw al2 nl2 cl2 (B ++ Y) := Rd.ofRow olY (hBd12)
          have rbY : Rd Yw ab j cb bs := Rd.ofRow obY hbsb
          obtain ⟨SB, HSB⟩ : ∃ SB, Hid (strOfNums bs = SB) := ⟨_, rfl⟩
          have hcv : ∀ w', Below Yw.heap.size Yw w' → (convert 31 9 (.slice ab j cb)).run Try.prog w' = .ok (.string SB) w' := fun w' hb => by rw [← HSB.out]; exact (rbY.carry (Nat.le_refl _) hb).string
          have hlnb := fun w => len_slice ab j cb 31 3 w Try.underlying31
          have HS2P : Below Yw.heap.size Yw Yw := Below.refl _ _
          refine lx_rd 0 ?vPb0 (by kernel_rfl) (fun _ _ d _ _ h => by cases d <;> exact h) (by kernel_rfl) HS2P rfl rfl rfl (fun w' hS => ?hPb0) ?_
          case hPb0 => first | (go_simp; rfl) | go_simp
          simp only [List.setIfInBounds_toArray, List.set_cons_zero, List.set_cons_succ]
          refine lx_rd 1 (.string SB) (by kernel_rfl) (fun _ _ d _ _ h => by cases d <;> exact h) (by kernel_rfl) HS2P rfl rfl rfl (fun w' hS => ?hPb1) ?_
          case hPb1 => have hcv' := hcv _ hS; first | (go_simp; rfl) | go_simp
          simp only [List.setIfInBounds_toArray, List.set_cons_zero, List.set_cons_succ]
          refine lx_rd 2 ?vPb2 (by kernel_rfl) (fun _ _ d _ _ h => by cases d <;> exact h) (by kernel_rfl) HS2P rfl rfl rfl (fun w' hS => ?hPb2) ?_
          case hPb2 => first | (go_simp; rfl) | go_simp
          simp only [List.setIfInBounds_toArray, List.set_cons_zero, List.set_cons_succ]
          refine lx_rd 4 ?vPb4 (by kernel_rfl) (fun _ _ d _ _ h => by cases d <;> exact h) (by kernel_rfl) HS2P rfl rfl rfl (fun w' hS => ?hPb4) ?_
          case hPb4 => first | (go_simp; rfl) | go_simp
          simp only [List.setIfInBounds_toArray, List.set_cons_zero, List.set_cons_succ]
          refine lx_rd 7 ?vPb7 (by kernel_rfl) (fun _ _ d _ _ h => by cases d <;> exact h) (by kernel_rfl) HS2P rfl rfl rfl (fun w' hS => ?hPb7) ?_
          case hPb7 => first | (go_simp; rfl) | go_simp
          simp only [List.setIfInBounds_toArray, List.set_cons_zero, List.set_cons_succ]
          refine lx_rd 8 (.int .i64 j) (by kernel_rfl) (fun _ _ d _ _ h => by cases d <;> exact h) (by kernel_rfl) HS2P rfl rfl rfl (fun w' hS => ?hPb8) ?_
          case hPb8 => first | (go_simp; rfl) | go_simp
          simp only [List.setIfInBounds_toArray, List.set_cons_zero, List.set_cons_succ]
          refine lx_one 3 (by kernel_rfl) (stepT_call 12 ?a3P rfl rfl rfl ?r3P ?_)
          case r3P => first | (go_simp; rfl) | go_simp
          refine (fewO aa na ca A Yw raY).mono ?_
          rintro e w23 ⟨a23, n23, c23, rfl, hn23, o23, r23, hb23⟩
          refine ⟨_, rfl, fun _ => hb23, ?_⟩
          simp only [List.setIfInBounds_toArray, List.set_cons_zero, List.set_cons_succ]
          have hA100 : A.take 100 = A := List.take_of_length_le (by omega)
          rw [hA100] at o23 r23
          have hn23' : n23 = na := by have := r23.len; omega
          subst hn23'
          obtain ⟨v24, w24, hrun24, o24, hb24⟩ := run_appG 31 o23 (rlY.carry (Nat.le_refl _) hb23) (by omega) hb23.size
          have hb24' := hb23.trans hb24
          refine lx_one 5 (by kernel_rfl) (stepT_val (w' := w24) v24 rfl rfl rfl (exec_appG rfl rfl rfl hrun24) (fun _ => hb24') ?_)
          simp only [List.setIfInBounds_toArray, List.set_cons_zero, List.set_cons_succ]
          obtain ⟨a24, c24, rfl, r24⟩ := Rd.ofOwn o24 (hAb.append (hBd12))
          have hcv24 := r24.string
          obtain ⟨SC, HSC⟩ : ∃ SC, Hid (strOfNums (A ++ (B ++ Y)) = SC) := ⟨_, rfl⟩
          rw [HSC.out] at hcv24
          have hSCz : SC.size = n23 + nl2 := by rw [← HSC.out, str_sizeG, List.length_append]; omega
          have hext : SC.extract 0 j = SB := by rw [← HSC.out, str_takeG, Hbs.out, HSB.out]
          refine lx_one 6 (by kernel_rfl) (stepT_val (w' := w24) (.string SC) rfl rfl rfl ?r6P (fun _ => hb24') ?_)
          case r6P => first | (go_simp; rfl) | go_simp
          simp only [List.setIfInBounds_toArray, List.set_cons_zero, List.set_cons_succ]
          have hjs : (j : Int) ≤ (SC.size : Int) := by omega
          have hjs2 : j ≤ SC.size := by omega
          refine lx_one 9 (by kernel_rfl) (stepT_val (w' := w24) (.string SB) rfl rfl rfl ?r9P (fun _ => hb24') ?_)
          case r9P => first | (go_simp; rfl) | (go_simp; done) | (go_simp; intro hh; exfalso; omega)
          simp only [List.setIfInBounds_toArray, List.set_cons_zero, List.set_cons_succ]
          refine lx_one 10 (by kernel_rfl) (stepT_val (w' := w24) (.bool false) rfl rfl rfl ?r10P (fun _ => hb24') ?_)
          case r10P => first | (go_simp; rfl) | go_simp
          simp only [List.setIfInBounds_toArray, List.set_cons_zero, List.set_cons_succ]
          refine lx_nil (by kernel_rfl) ?_
          have hB24 := hBY.trans (hb24'.mono hBY.size)
          have hD24 := hDY.below hb24'
          have ob24 := own_keep (S := fun _ => False) obY (Keep.ofBelow hb24') (fun _ _ h => h)
          have hbF24 : Apt F21 (.slice ab j cb) := hbF22
          obtain ⟨g1, g2⟩ := restG hrfs Hbl.out
          have hR2 := restart_any d F21 k21 0 (.slice none 0 0) [] (by rw [hrfs]; show 1 < 1000000; omega) w24 hD24 (irn w24) (fun h => absurd rfl h)
          obtain ⟨k25, hk25⟩ : ∃ k25, restK k21 [] = k25 := ⟨_, rfl⟩
          rw [hk25] at g1 g2 hR2
          clear hk25 hcv hcv24 hext hSCz hjs hjs2 hrun24 o24 r24 o23 r23 hb23 hb24 raY rlY rbY oaY olY obY hDY hBY HS2P hlnb hA100
          go_upto_region 24 with (first
            | (go_at_call 16; refine hR2.mono ?_; rintro e w25 ⟨rfl, F25, hD25, hk25, hF25⟩))
          have hB25 : Below W.heap.size W w25 := hB24.trans (hk25.low hB24.size hF21')
          have ob25 := own_keep ob24 hk25 hbF24
          have hRd2 := read_any d F25 k25 sG w25 hD25
          rw [readG g2 g1] at hRd2
          dsimp only at hRd2
          rw [Hbl.out] at hRd2
          unfold sG at hRd2
          go_upto_region 25 with (first
            | (go_at_call 18; refine hRd2.mono ?_; rintro e w26 ⟨v26, rfl, oc26, hb26⟩; obtain ⟨ac, cc, rfl, rc26⟩ := Rd.ofOwn (n := j) oc26 hbsb))
          have rb26 : Rd w26 ab j cb bs := (Rd.ofRow ob25 hbsb).carry (Nat.le_refl _) hb26
          have hx1 := rc26.string
          have hx2 := rb26.string
          rw [HSB.out] at hx1 hx2
          clear hRd2 hR2 rc26 rb26 oc26
          go_wp2
          go_ret
          exact ⟨rfl, hB25.trans (hb26.mono hB25.size)⟩
      · obtain rfl : i = 40 := by omega
        have hcl40 : ¬ ((40 : Nat) : Int) < 40 := by omega
        have hnl4 : nl ≤ 4000 := by omega
        have hir := ints_any f0 p0 q0 zs wr (hK.carry HB.out)
        have hstp : k.steps ≤ 42 := by have := HS.out.xsteps; omega
        obtain ⟨j, hj1, hj2, hrfs, hroff, hrst, hrfu⟩ := (HS.out).rest (zs.take 30)
        have hRs := fun w hD bk v hI hb => restart_any d F k bk v (zs.take 30) (by rw [(HS.out).xfs]; show 1 < 1000000; omega) w hD hI hb
        have hBlen : B.length = nl := by have := (HL.out).1; simpa [bc] using this
        have hS' := HS.out
        clear hM hR
        go_upto_region 18 with (first
          | (go_at_call 17; refine hir.mono ?_; rintro e w20 ⟨v20, g20, rfl, hI20, hg20, hb20⟩)
          | (go_at_call 16; refine (hRs _ ((HD.out).below hb20) g20 v20 hI20 (fun _ h => by have := (HD.out).lt _ h; omega)).mono ?_; rintro e w21 ⟨rfl, F21, hD21, hk21, hF21⟩))
        have hB20 := (HB.out).trans (hb20.mono (HB.out).size)
        have hB21 : Below W.heap.size W w21 := hB20.trans (hk21.low hB20.size (HF.out))
        have hF21' : ∀ i, F21 i → W.heap.size ≤ i := fun i hi => (hF21 i hi).elim ((HF.out) i) (fun h => by have := hB20.size; omega)
        have oa20 := own_keep (S := fun _ => False) (HA.out) (Keep.ofBelow hb20) (fun _ _ h => h)
        have oa21 := own_keep oa20 hk21 (HAF.out)
        have haF21 := (HAF.out).next oa20 hF21
        have ol20 := own_keep (S := fun _ => False) (HL.out) (Keep.ofBelow hb20) (fun _ _ h => h)
        have ol21 := own_keep ol20 hk21 (HLF.out)
        have hlF21 := (HLF.out).next ol20 hF21
        obtain ⟨k21, hk21e⟩ : ∃ k21, restK k (zs.take 30) = k21 := ⟨_, rfl⟩
        rw [hk21e] at hrfs hroff hrst hrfu hD21
        have hRd := read_any d F21 k21 sG w21 hD21
        rw [readG hroff hrfs] at hRd
        clear hk21e hir hRs hI20 hb20 hk21 hF21 oa20 ol20 hB20
        dsimp only at hRd
        unfold sG at hRd
        obtain ⟨bs, Hbs⟩ : ∃ bs, Hid ((A ++ B).take j = bs) := ⟨_, rfl⟩
        rw [Hbs.out] at hRd hrfs
        have hbsl : bs.length = j := by rw [← Hbs.out, List.length_take, List.length_append]; omega
        have hbsb : Bd bs := by rw [← Hbs.out]; exact (hAb.append (HBd.out)).take j
        rw [hbsl] at hRd
        have Hbl : Hid (bs.length = j) := hbsl
        go_upto_region 19 with (first
          | (go_at_call 18; refine hRd.mono ?_; rintro e w22 ⟨v22, rfl, ob22, hb22⟩; obtain ⟨ab, cb, rfl, rb22⟩ := Rd.ofOwn (n := j) ob22 hbsb))
        have hB22 := hB21.trans (hb22.mono hB21.size)
        have hD22 := hD21.below hb22
        have oa22 := own_keep (S := fun _ => False) oa21 (Keep.ofBelow hb22) (fun _ _ h => h)
        have ol22 := own_keep (S := fun _ => False) ol21 (Keep.ofBelow hb22) (fun _ _ h => h)
        have hbF22 : Apt F21 (.slice ab j cb) := Apt.new ob22 hD21.lt
        have ra22 : Rd w22.drew aa na ca A := (Rd.ofRow oa22 hAb).keep (S := fun _ => False) ((Keep.refl _ _).drew) (fun _ _ h => h)
        have rl22 : Rd w22.drew al nl cl B := (Rd.ofRow ol22 (HBd.out)).keep (S := fun _ => False) ((Keep.refl _ _).drew) (fun _ _ h => h)
        have rb22' : Rd w22.drew ab j cb bs := rb22.keep (S := fun _ => False) ((Keep.refl _ _).drew) (fun _ _ h => h)
        have hcb := rb22.cap
        have hcbm : cb ≤ 9223372036854775807 := rb22.most
        have ob22' : w22.ownsRow W.heap.size 5 1 (.slice ab j cb) j (bc bs) := own_weak ob22 hB21.size
        clear hRd ob22 oa21 ol21 hb22 hD21 hB21 haF21 hlF21
        have hst1 : (convert 31 9 (.slice ab na cb)).run Try.prog w22.drew = .ok (.string (strOfNums A)) w22.drew := by
          have h := (rb22'.takeK (show na ≤ j by omega)).string
          have e : bs.take na = A := by rw [← Hbs.out, List.take_take, Nat.min_eq_left (by omega), List.take_append_of_le_length (by omega), List.take_of_length_le (by omega)]
          rw [e] at h
          exact h
        have hst2 := ra22.string
        have hlnb := len_slice ab j cb 31 3 w22.drew Try.underlying31
        have hlna := len_slice aa na ca 31 3 w22.drew Try.underlying31
        have hlnl := len_slice al nl cl 31 3 w22.drew Try.underlying31
        have hc1 : decide ((j : Int) < (na : Int)) = false := by simp; omega
        have hc2 : decide ((na : Int) + (nl : Int) < (j : Int)) = false := by simp; omega
        have hw1 : IntKind.i64.wrap ((na : Int) + (nl : Int)) = (na : Int) + (nl : Int) := by rw [IntKind.wrap_i64]; omega
        have hsl : (na : Int) ≤ (cb : Int) := by omega
        have hnj : na ≤ j := by omega
        obtain ⟨SA, HSA⟩ : ∃ SA, Hid (strOfNums A = SA) := ⟨_, rfl⟩
        rw [HSA.out] at hst1 hst2
        have hBX : Below W.heap.size W w22.drew := hB22.drew
        have hDX : DiskAt w22.drew F21 d k21 := hD22.keep (S := fun _ => False) ((Keep.refl _ _).drew) (fun _ _ h => h)
        have oaX : w22.drew.ownsRow W.heap.size 5 1 (.slice aa na ca) na (bc A) := own_keep (S := fun _ => False) oa22 ((Keep.refl _ _).drew) (fun _ _ h => h)
        have olX : w22.drew.ownsRow W.heap.size 5 1 (.slice al nl cl) nl (bc B) := own_keep (S := fun _ => False) ol22 ((Keep.refl _ _).drew) (fun _ _ h => h)
        have obX : w22.drew.ownsRow W.heap.size 5 1 (.slice ab j cb) j (bc bs) := own_keep (S := fun _ => False) ob22' ((Keep.refl _ _).drew) (fun _ _ h => h)
        clear hB22 hD22 oa22 ol22 ob22' rb22
        refine wp_region_lx (fun w' => w' = w22.drew) [] 29 (by kernel_rfl) (by kernel_rfl) ?_
        generalize w22.drew = X at *
        have HSQ : X = X := rfl
        refine lx_rd 0 ?vQa0 (by kernel_rfl) (fun _ _ d _ _ h => by cases d <;> exact h) (by kernel_rfl) HSQ rfl rfl rfl (fun w' hS => ?hQa0) ?_
        case hQa0 => first | (go_simp; rfl) | go_simp
        simp only [List.setIfInBounds_toArray, List.set_cons_zero, List.set_cons_succ]
        refine lx_rd 1 (.bool false) (by kernel_rfl) (fun _ _ d _ _ h => by cases d <;> exact h) (by kernel_rfl) HSQ rfl rfl rfl (fun w' hS => ?hQa1) ?_
        case hQa1 => first | (go_simp; rfl) | go_simp
        simp only [List.setIfInBounds_toArray, List.set_cons_zero, List.set_cons_succ]
        refine lx_rd 2 ?vQa2 (by kernel_rfl) (fun _ _ d _ _ h => by cases d <;> exact h) (by kernel_rfl) HSQ rfl rfl rfl (fun w' hS => ?hQa2) ?_
        case hQa2 => first | (go_simp; rfl) | go_simp
        simp only [List.setIfInBounds_toArray, List.set_cons_zero, List.set_cons_succ]
        refine lx_rd 3 ?vQa3 (by kernel_rfl) (fun _ _ d _ _ h => by cases d <;> exact h) (by kernel_rfl) HSQ rfl rfl rfl (fun w' hS => ?hQa3) ?_
        case hQa3 => first | (go_simp; rfl) | go_simp
        simp only [List.setIfInBounds_toArray, List.set_cons_zero, List.set_cons_succ]
        refine lx_rd 4 (.int .i64 j) (by kernel_rfl) (fun _ _ d _ _ h => by cases d <;> exact h) (by kernel_rfl) HSQ rfl rfl rfl (fun w' hS => ?hQa4) ?_
        case hQa4 => subst hS; first | (go_simp; rfl) | go_simp
        simp only [List.setIfInBounds_toArray, List.set_cons_zero, List.set_cons_succ]
        refine lx_rd 5 ?vQa5 (by kernel_rfl) (fun _ _ d _ _ h => by cases d <;> exact h) (by kernel_rfl) HSQ rfl rfl rfl (fun w' hS => ?hQa5) ?_
        case hQa5 => first | (go_simp; rfl) | go_simp
        simp only [List.setIfInBounds_toArray, List.set_cons_zero, List.set_cons_succ]
        refine lx_rd 6 (.int .i64 na) (by kernel_rfl) (fun _ _ d _ _ h => by cases d <;> exact h) (by kernel_rfl) HSQ rfl rfl rfl (fun w' hS => ?hQa6) ?_
        case hQa6 => subst hS; first | (go_simp; rfl) | go_simp
        simp only [List.setIfInBounds_toArray, List.set_cons_zero, List.set_cons_succ]
        refine lx_rd 7 (.bool false) (by kernel_rfl) (fun _ _ d _ _ h => by cases d <;> exact h) (by kernel_rfl) HSQ rfl rfl rfl (fun w' hS => ?hQa7) ?_
        case hQa7 => first | (go_simp; rfl) | go_simp
        simp only [List.setIfInBounds_toArray, List.set_cons_zero, List.set_cons_succ]
        refine lx_rd 8 (.bool false) (by kernel_rfl) (fun _ _ d _ _ h => by cases d <;> exact h) (by kernel_rfl) HSQ rfl rfl rfl (fun w' hS => ?hQa8) ?_
        case hQa8 => first | (go_simp; rfl) | go_simp
        simp only [List.setIfInBounds_toArray, List.set_cons_zero, List.set_cons_succ]
        refine lx_rd 9 ?vQa9 (by kernel_rfl) (fun _ _ d _ _ h => by cases d <;> exact h) (by kernel_rfl) HSQ rfl rfl rfl (fun w' hS => ?hQa9) ?_
        case hQa9 => first | (go_simp; rfl) | go_simp
        simp only [List.setIfInBounds_toArray, List.set_cons_zero, List.set_cons_succ]
        refine lx_rd 10 ?vQa10 (by kernel_rfl) (fun _ _ d _ _ h => by cases d <;> exact h) (by kernel_rfl) HSQ rfl rfl rfl (fun w' hS => ?hQa10) ?_
        case hQa10 => first | (go_simp; rfl) | go_simp
        simp only [List.setIfInBounds_toArray, List.set_cons_zero, List.set_cons_succ]
        refine lx_rd 11 ?vQa11 (by kernel_rfl) (fun _ _ d _ _ h => by cases d <;> exact h) (by kernel_rfl) HSQ rfl rfl rfl (fun w' hS => ?hQa11) ?_
        case hQa11 => first | (go_simp; rfl) | go_simp
        simp only [List.setIfInBounds_toArray, List.set_cons_zero, List.set_cons_succ]
        refine lx_rd 12 (.int .i64 na) (by kernel_rfl) (fun _ _ d _ _ h => by cases d <;> exact h) (by kernel_rfl) HSQ rfl rfl rfl (fun w' hS => ?hQa12) ?_
        case hQa12 => subst hS; first | (go_simp; rfl) | go_simp
        simp only [List.setIfInBounds_toArray, List.set_cons_zero, List.set_cons_succ]
        refine lx_rd 13 (.slice ab na cb) (by kernel_rfl) (fun _ _ d _ _ h => by cases d <;> exact h) (by kernel_rfl) HSQ rfl rfl rfl (fun w' hS => ?hQa13) ?_
        case hQa13 => first | (go_simp; rfl) | go_simp
        simp only [List.setIfInBounds_toArray, List.set_cons_zero, List.set_cons_succ]
        refine lx_rd 14 (.string SA) (by kernel_rfl) (fun _ _ d _ _ h => by cases d <;> exact h) (by kernel_rfl) HSQ rfl rfl rfl (fun w' hS => ?hQa14) ?_
        case hQa14 => subst hS; first | (go_simp; rfl) | go_simp
        simp only [List.setIfInBounds_toArray, List.set_cons_zero, List.set_cons_succ]
        refine lx_rd 15 ?vQa15 (by kernel_rfl) (fun _ _ d _ _ h => by cases d <;> exact h) (by kernel_rfl) HSQ rfl rfl rfl (fun w' hS => ?hQa15) ?_
        case hQa15 => first | (go_simp; rfl) | go_simp
        simp only [List.setIfInBounds_toArray, List.set_cons_zero, List.set_cons_succ]
        refine lx_rd 16 (.string SA) (by kernel_rfl) (fun _ _ d _ _ h => by cases d <;> exact h) (by kernel_rfl) HSQ rfl rfl rfl (fun w' hS => ?hQa16) ?_
        case hQa16 => subst hS; first | (go_simp; rfl) | go_simp
        simp only [List.setIfInBounds_toArray, List.set_cons_zero, List.set_cons_succ]
        refine lx_rd 17 (.bool false) (by kernel_rfl) (fun _ _ d _ _ h => by cases d <;> exact h) (by kernel_rfl) HSQ rfl rfl rfl (fun w' hS => ?hQa17) ?_
        case hQa17 => first | (go_simp; rfl) | go_simp
        simp only [List.setIfInBounds_toArray, List.set_cons_zero, List.set_cons_succ]
        refine lx_rd 18 (.bool false) (by kernel_rfl) (fun _ _ d _ _ h => by cases d <;> exact h) (by kernel_rfl) HSQ rfl rfl rfl (fun w' hS => ?hQa18) ?_
        case hQa18 => first | (go_simp; rfl) | go_simp
        simp only [List.setIfInBounds_toArray, List.set_cons_zero, List.set_cons_succ]
        refine lx_rd 19 ?vQa19 (by kernel_rfl) (fun _ _ d _ _ h => by cases d <;> exact h) (by kernel_rfl) HSQ rfl rfl rfl (fun w' hS => ?hQa19) ?_
        case hQa19 => first | (go_simp; rfl) | go_simp
        simp only [List.setIfInBounds_toArray, List.set_cons_zero, List.set_cons_succ]
        refine lx_rd 20 ?vQa20 (by kernel_rfl) (fun _ _ d _ _ h => by cases d <;> exact h) (by kernel_rfl) HSQ rfl rfl rfl (fun w' hS => ?hQa20) ?_
        case hQa20 => first | (go_simp; rfl) | go_simp
        simp only [List.setIfInBounds_toArray, List.set_cons_zero, List.set_cons_succ]
        refine lx_rd 21 (.int .i64 j) (by kernel_rfl) (fun _ _ d _ _ h => by cases d <;> exact h) (by kernel_rfl) HSQ rfl rfl rfl (fun w' hS => ?hQa21) ?_
        case hQa21 => subst hS; first | (go_simp; rfl) | go_simp
        simp only [List.setIfInBounds_toArray, List.set_cons_zero, List.set_cons_succ]
        refine lx_rd 22 ?vQa22 (by kernel_rfl) (fun _ _ d _ _ h => by cases d <;> exact h) (by kernel_rfl) HSQ rfl rfl rfl (fun w' hS => ?hQa22) ?_
        case hQa22 => first | (go_simp; rfl) | go_simp
        simp only [List.setIfInBounds_toArray, List.set_cons_zero, List.set_cons_succ]
        refine lx_rd 23 (.int .i64 na) (by kernel_rfl) (fun _ _ d _ _ h => by cases d <;> exact h) (by kernel_rfl) HSQ rfl rfl rfl (fun w' hS => ?hQa23) ?_
        case hQa23 => subst hS; first | (go_simp; rfl) | go_simp
        simp only [List.setIfInBounds_toArray, List.set_cons_zero, List.set_cons_succ]
        refine lx_rd 24 ?vQa24 (by kernel_rfl) (fun _ _ d _ _ h => by cases d <;> exact h) (by kernel_rfl) HSQ rfl rfl rfl (fun w' hS => ?hQa24) ?_
        case hQa24 => first | (go_simp; rfl) | go_simp
        simp only [List.setIfInBounds_toArray, List.set_cons_zero, List.set_cons_succ]
        refine lx_rd 25 (.int .i64 nl) (by kernel_rfl) (fun _ _ d _ _ h => by cases d <;> exact h) (by kernel_rfl) HSQ rfl rfl rfl (fun w' hS => ?hQa25) ?_
        case hQa25 => subst hS; first | (go_simp; rfl) | go_simp
        simp only [List.setIfInBounds_toArray, List.set_cons_zero, List.set_cons_succ]
        refine lx_rd 26 (.int .i64 ((na : Int) + nl)) (by kernel_rfl) (fun _ _ d _ _ h => by cases d <;> exact h) (by kernel_rfl) HSQ rfl rfl rfl (fun w' hS => ?hQa26) ?_
        case hQa26 => first | (go_simp; rfl) | go_simp
        simp only [List.setIfInBounds_toArray, List.set_cons_zero, List.set_cons_succ]
        refine lx_rd 27 (.bool false) (by kernel_rfl) (fun _ _ d _ _ h => by cases d <;> exact h) (by kernel_rfl) HSQ rfl rfl rfl (fun w' hS => ?hQa27) ?_
        case hQa27 => first | (go_simp; rfl) | go_simp
        simp only [List.setIfInBounds_toArray, List.set_cons_zero, List.set_cons_succ]
        refine lx_rd 28 (.bool false) (by kernel_rfl) (fun _ _ d _ _ h => by cases d <;> exact h) (by kernel_rfl) HSQ rfl rfl rfl (fun w' hS => ?hQa28) ?_
        case hQa28 => first | (go_simp; rfl) | go_simp
        simp only [List.setIfInBounds_toArray, List.set_cons_zero, List.set_cons_succ]
        refine lx_nil (by kernel_rfl) ?_
        clear HSQ hst1 hst2 hlnb hlna hlnl hc1 hc2 hw1 ra22 rl22 rb22'
        go_upto_region 21 with fail
        have hBY : Below W.heap.size W X.drew := hBX.drew
        have hDY : DiskAt X.drew F21 d k21 := hDX.keep (S := fun _ => False) ((Keep.refl _ _).drew) (fun _ _ h => h)
        have oaY : X.drew.ownsRow W.heap.size 5 1 (.slice aa na ca) na (bc A) := own_keep (S := fun _ => False) oaX ((Keep.refl _ _).drew) (fun _ _ h => h)
        have olY : X.drew.ownsRow W.heap.size 5 1 (.slice al nl cl) nl (bc B) := own_keep (S := fun _ => False) olX ((Keep.refl _ _).drew) (fun _ _ h => h)
        have obY : X.drew.ownsRow W.heap.size 5 1 (.slice ab j cb) j (bc bs) := own_keep (S := fun _ => False) obX ((Keep.refl _ _).drew) (fun _ _ h => h)
        refine wp_region_lx (fun w' => Below X.drew.heap.size X.drew w') [] 11 (by kernel_rfl) (by kernel_rfl) ?_
        generalize X.drew = Yw at *
        clear hBX hDX oaX olX obX
        have raY : Rd Yw aa na ca A := Rd.ofRow oaY hAb
        have rlY : Rd Yw al nl cl B := Rd.ofRow olY (HBd.out)
        have rbY : Rd Yw ab j cb bs := Rd.ofRow obY hbsb
        obtain ⟨SB, HSB⟩ : ∃ SB, Hid (strOfNums bs = SB) := ⟨_, rfl⟩
        have hcv : ∀ w', Below Yw.heap.size Yw w' → (convert 31 9 (.slice ab j cb)).run Try.prog w' = .ok (.string SB) w' := fun w' hb => by rw [← HSB.out]; exact (rbY.carry (Nat.le_refl _) hb).string
        have hlnb := fun w => len_slice ab j cb 31 3 w Try.underlying31
        have HS2Q : Below Yw.heap.size Yw Yw := Below.refl _ _
        refine lx_rd 0 ?vQb0 (by kernel_rfl) (fun _ _ d _ _ h => by cases d <;> exact h) (by kernel_rfl) HS2Q rfl rfl rfl (fun w' hS => ?hQb0) ?_
        case hQb0 => first | (go_simp; rfl) | go_simp
        simp only [List.setIfInBounds_toArray, List.set_cons_zero, List.set_cons_succ]
        refine lx_rd 1 (.string SB) (by kernel_rfl) (fun _ _ d _ _ h => by cases d <;> exact h) (by kernel_rfl) HS2Q rfl rfl rfl (fun w' hS => ?hQb1) ?_
        case hQb1 => have hcv' := hcv _ hS; first | (go_simp; rfl) | go_simp
        simp only [List.setIfInBounds_toArray, List.set_cons_zero, List.set_cons_succ]
        refine lx_rd 2 ?vQb2 (by kernel_rfl) (fun _ _ d _ _ h => by cases d <;> exact h) (by kernel_rfl) HS2Q rfl rfl rfl (fun w' hS => ?hQb2) ?_
        case hQb2 => first | (go_simp; rfl) | go_simp
        simp only [List.setIfInBounds_toArray, List.set_cons_zero, List.set_cons_succ]
        refine lx_rd 4 ?vQb4 (by kernel_rfl) (fun _ _ d _ _ h => by cases d <;> exact h) (by kernel_rfl) HS2Q rfl rfl rfl (fun w' hS => ?hQb4) ?_
        case hQb4 => first | (go_simp; rfl) | go_simp
        simp only [List.setIfInBounds_toArray, List.set_cons_zero, List.set_cons_succ]
        refine lx_rd 7 ?vQb7 (by kernel_rfl) (fun _ _ d _ _ h => by cases d <;> exact h) (by kernel_rfl) HS2Q rfl rfl rfl (fun w' hS => ?hQb7) ?_
        case hQb7 => first | (go_simp; rfl) | go_simp
        simp only [List.setIfInBounds_toArray, List.set_cons_zero, List.set_cons_succ]
        refine lx_rd 8 (.int .i64 j) (by kernel_rfl) (fun _ _ d _ _ h => by cases d <;> exact h) (by kernel_rfl) HS2Q rfl rfl rfl (fun w' hS => ?hQb8) ?_
        case hQb8 => first | (go_simp; rfl) | go_simp
        simp only [List.setIfInBounds_toArray, List.set_cons_zero, List.set_cons_succ]
        refine lx_one 3 (by kernel_rfl) (stepT_call 12 ?a3Q rfl rfl rfl ?r3Q ?_)
        case r3Q => first | (go_simp; rfl) | go_simp
        refine (fewO aa na ca A Yw raY).mono ?_
        rintro e w23 ⟨a23, n23, c23, rfl, hn23, o23, r23, hb23⟩
        refine ⟨_, rfl, fun _ => hb23, ?_⟩
        simp only [List.setIfInBounds_toArray, List.set_cons_zero, List.set_cons_succ]
        have hA100 : A.take 100 = A := List.take_of_length_le (by omega)
        rw [hA100] at o23 r23
        have hn23' : n23 = na := by have := r23.len; omega
        subst hn23'
        obtain ⟨v24, w24, hrun24, o24, hb24⟩ := run_appG 31 o23 (rlY.carry (Nat.le_refl _) hb23) (by omega) hb23.size
        have hb24' := hb23.trans hb24
        refine lx_one 5 (by kernel_rfl) (stepT_val (w' := w24) v24 rfl rfl rfl (exec_appG rfl rfl rfl hrun24) (fun _ => hb24') ?_)
        simp only [List.setIfInBounds_toArray, List.set_cons_zero, List.set_cons_succ]
        obtain ⟨a24, c24, rfl, r24⟩ := Rd.ofOwn o24 (hAb.append (HBd.out))
        have hcv24 := r24.string
        obtain ⟨SC, HSC⟩ : ∃ SC, Hid (strOfNums (A ++ B) = SC) := ⟨_, rfl⟩
        rw [HSC.out] at hcv24
        have hSCz : SC.size = n23 + nl := by rw [← HSC.out, str_sizeG, List.length_append]; omega
        have hext : SC.extract 0 j = SB := by rw [← HSC.out, str_takeG, Hbs.out, HSB.out]
        refine lx_one 6 (by kernel_rfl) (stepT_val (w' := w24) (.string SC) rfl rfl rfl ?r6Q (fun _ => hb24') ?_)
        case r6Q => first | (go_simp; rfl) | go_simp
        simp only [List.setIfInBounds_toArray, List.set_cons_zero, List.set_cons_succ]
        have hjs : (j : Int) ≤ (SC.size : Int) := by omega
        have hjs2 : j ≤ SC.size := by omega
        refine lx_one 9 (by kernel_rfl) (stepT_val (w' := w24) (.string SB) rfl rfl rfl ?r9Q (fun _ => hb24') ?_)
        case r9Q => first | (go_simp; rfl) | (go_simp; done) | (go_simp; intro hh; exfalso; omega)
        simp only [List.setIfInBounds_toArray, List.set_cons_zero, List.set_cons_succ]
        refine lx_one 10 (by kernel_rfl) (stepT_val (w' := w24) (.bool false) rfl rfl rfl ?r10Q (fun _ => hb24') ?_)
        case r10Q => first | (go_simp; rfl) | go_simp
        simp only [List.setIfInBounds_toArray, List.set_cons_zero, List.set_cons_succ]
        refine lx_nil (by kernel_rfl) ?_
        have hB24 := hBY.trans (hb24'.mono hBY.size)
        have hD24 := hDY.below hb24'
        have ob24 := own_keep (S := fun _ => False) obY (Keep.ofBelow hb24') (fun _ _ h => h)
        have hbF24 : Apt F21 (.slice ab j cb) := hbF22
        obtain ⟨g1, g2⟩ := restG hrfs Hbl.out
        have hR2 := restart_any d F21 k21 0 (.slice none 0 0) [] (by rw [hrfs]; show 1 < 1000000; omega) w24 hD24 (irn w24) (fun h => absurd rfl h)
        obtain ⟨k25, hk25⟩ : ∃ k25, restK k21 [] = k25 := ⟨_, rfl⟩
        rw [hk25] at g1 g2 hR2
        clear hk25 hcv hcv24 hext hSCz hjs hjs2 hrun24 o24 r24 o23 r23 hb23 hb24 raY rlY rbY oaY olY obY hDY hBY HS2Q hlnb hA100
        go_upto_region 24 with (first
          | (go_at_call 16; refine hR2.mono ?_; rintro e w25 ⟨rfl, F25, hD25, hk25, hF25⟩))
        have hB25 : Below W.heap.size W w25 := hB24.trans (hk25.low hB24.size hF21')
        have ob25 := own_keep ob24 hk25 hbF24
        have hRd2 := read_any d F25 k25 sG w25 hD25
        rw [readG g2 g1] at hRd2
        dsimp only at hRd2
        rw [Hbl.out] at hRd2
        unfold sG at hRd2
        go_upto_region 25 with (first
          | (go_at_call 18; refine hRd2.mono ?_; rintro e w26 ⟨v26, rfl, oc26, hb26⟩; obtain ⟨ac, cc, rfl, rc26⟩ := Rd.ofOwn (n := j) oc26 hbsb))
        have rb26 : Rd w26 ab j cb bs := (Rd.ofRow ob25 hbsb).carry (Nat.le_refl _) hb26
        have hx1 := rc26.string
        have hx2 := rb26.string
        rw [HSB.out] at hx1 hx2
        clear hRd2 hR2 rc26 rb26 oc26
        go_wp2
        go_ret
        exact ⟨rfl, hB25.trans (hb26.mono hB25.size)⟩
    · have hcl : ¬ (i : Int) < (m0 : Int) := by omega
      have hnl4 : nl ≤ 4000 := by omega
      have hir := ints_any f0 p0 q0 zs wr (hK.carry HB.out)
      have hstp : k.steps ≤ 42 := by have := HS.out.xsteps; omega
      obtain ⟨j, hj1, hj2, hrfs, hroff, hrst, hrfu⟩ := (HS.out).rest (zs.take 30)
      have hRs := fun w hD bk v hI hb => restart_any d F k bk v (zs.take 30) (by rw [(HS.out).xfs]; show 1 < 1000000; omega) w hD hI hb
      have hBlen : B.length = nl := by have := (HL.out).1; simpa [bc] using this
      have hS' := HS.out
      clear hM hR
      go_upto_region 18 with (first
        | (go_at_call 17; refine hir.mono ?_; rintro e w20 ⟨v20, g20, rfl, hI20, hg20, hb20⟩)
        | (go_at_call 16; refine (hRs _ ((HD.out).below hb20) g20 v20 hI20 (fun _ h => by have := (HD.out).lt _ h; omega)).mono ?_; rintro e w21 ⟨rfl, F21, hD21, hk21, hF21⟩))
      have hB20 := (HB.out).trans (hb20.mono (HB.out).size)
      have hB21 : Below W.heap.size W w21 := hB20.trans (hk21.low hB20.size (HF.out))
      have hF21' : ∀ i, F21 i → W.heap.size ≤ i := fun i hi => (hF21 i hi).elim ((HF.out) i) (fun h => by have := hB20.size; omega)
      have oa20 := own_keep (S := fun _ => False) (HA.out) (Keep.ofBelow hb20) (fun _ _ h => h)
      have oa21 := own_keep oa20 hk21 (HAF.out)
      have haF21 := (HAF.out).next oa20 hF21
      have ol20 := own_keep (S := fun _ => False) (HL.out) (Keep.ofBelow hb20) (fun _ _ h => h)
      have ol21 := own_keep ol20 hk21 (HLF.out)
      have hlF21 := (HLF.out).next ol20 hF21
      obtain ⟨k21, hk21e⟩ : ∃ k21, restK k (zs.take 30) = k21 := ⟨_, rfl⟩
      rw [hk21e] at hrfs hroff hrst hrfu hD21
      have hRd := read_any d F21 k21 sG w21 hD21
      rw [readG hroff hrfs] at hRd
      clear hk21e hir hRs hI20 hb20 hk21 hF21 oa20 ol20 hB20
      dsimp only at hRd
      unfold sG at hRd
      obtain ⟨bs, Hbs⟩ : ∃ bs, Hid ((A ++ B).take j = bs) := ⟨_, rfl⟩
      rw [Hbs.out] at hRd hrfs
      have hbsl : bs.length = j := by rw [← Hbs.out, List.length_take, List.length_append]; omega
      have hbsb : Bd bs := by rw [← Hbs.out]; exact (hAb.append (HBd.out)).take j
      rw [hbsl] at hRd
      have Hbl : Hid (bs.length = j) := hbsl
      go_upto_region 19 with (first
        | (go_at_call 18; refine hRd.mono ?_; rintro e w22 ⟨v22, rfl, ob22, hb22⟩; obtain ⟨ab, cb, rfl, rb22⟩ := Rd.ofOwn (n := j) ob22 hbsb))
      have hB22 := hB21.trans (hb22.mono hB21.size)
      have hD22 := hD21.below hb22
      have oa22 := own_keep (S := fun _ => False) oa21 (Keep.ofBelow hb22) (fun _ _ h => h)
      have ol22 := own_keep (S := fun _ => False) ol21 (Keep.ofBelow hb22) (fun _ _ h => h)
      have hbF22 : Apt F21 (.slice ab j cb) := Apt.new ob22 hD21.lt
      have ra22 : Rd w22.drew aa na ca A := (Rd.ofRow oa22 hAb).keep (S := fun _ => False) ((Keep.refl _ _).drew) (fun _ _ h => h)
      have rl22 : Rd w22.drew al nl cl B := (Rd.ofRow ol22 (HBd.out)).keep (S := fun _ => False) ((Keep.refl _ _).drew) (fun _ _ h => h)
      have rb22' : Rd w22.drew ab j cb bs := rb22.keep (S := fun _ => False) ((Keep.refl _ _).drew) (fun _ _ h => h)
      have hcb := rb22.cap
      have hcbm : cb ≤ 9223372036854775807 := rb22.most
      have ob22' : w22.ownsRow W.heap.size 5 1 (.slice ab j cb) j (bc bs) := own_weak ob22 hB21.size
      clear hRd ob22 oa21 ol21 hb22 hD21 hB21 haF21 hlF21
      have hst1 : (convert 31 9 (.slice ab na cb)).run Try.prog w22.drew = .ok (.string (strOfNums A)) w22.drew := by
        have h := (rb22'.takeK (show na ≤ j by omega)).string
        have e : bs.take na = A := by rw [← Hbs.out, List.take_take, Nat.min_eq_left (by omega), List.take_append_of_le_length (by omega), List.take_of_length_le (by omega)]
        rw [e] at h
        exact h
      have hst2 := ra22.string
      have hlnb := len_slice ab j cb 31 3 w22.drew Try.underlying31
      have hlna := len_slice aa na ca 31 3 w22.drew Try.underlying31
      have hlnl := len_slice al nl cl 31 3 w22.drew Try.underlying31
      have hc1 : decide ((j : Int) < (na : Int)) = false := by simp; omega
      have hc2 : decide ((na : Int) + (nl : Int) < (j : Int)) = false := by simp; omega
      have hw1 : IntKind.i64.wrap ((na : Int) + (nl : Int)) = (na : Int) + (nl : Int) := by rw [IntKind.wrap_i64]; omega
      have hsl : (na : Int) ≤ (cb : Int) := by omega
      have hnj : na ≤ j := by omega
      obtain ⟨SA, HSA⟩ : ∃ SA, Hid (strOfNums A = SA) := ⟨_, rfl⟩
      rw [HSA.out] at hst1 hst2
      have hBX : Below W.heap.size W w22.drew := hB22.drew
      have hDX : DiskAt w22.drew F21 d k21 := hD22.keep (S := fun _ => False) ((Keep.refl _ _).drew) (fun _ _ h => h)
      have oaX : w22.drew.ownsRow W.heap.size 5 1 (.slice aa na ca) na (bc A) := own_keep (S := fun _ => False) oa22 ((Keep.refl _ _).drew) (fun _ _ h => h)
      have olX : w22.drew.ownsRow W.heap.size 5 1 (.slice al nl cl) nl (bc B) := own_keep (S := fun _ => False) ol22 ((Keep.refl _ _).drew) (fun _ _ h => h)
      have obX : w22.drew.ownsRow W.heap.size 5 1 (.slice ab j cb) j (bc bs) := own_keep (S := fun _ => False) ob22' ((Keep.refl _ _).drew) (fun _ _ h => h)
      clear hB22 hD22 oa22 ol22 ob22' rb22
      refine wp_region_lx (fun w' => w' = w22.drew) [] 29 (by kernel_rfl) (by kernel_rfl) ?_
      generalize w22.drew = X at *
      have HSR : X = X := rfl
      refine lx_rd 0 ?vRa0 (by kernel_rfl) (fun _ _ d _ _ h => by cases d <;> exact h) (by kernel_rfl) HSR rfl rfl rfl (fun w' hS => ?hRa0) ?_
      case hRa0 => first | (go_simp; rfl) | go_simp
      simp only [List.setIfInBounds_toArray, List.set_cons_zero, List.set_cons_succ]
      refine lx_rd 1 (.bool false) (by kernel_rfl) (fun _ _ d _ _ h => by cases d <;> exact h) (by kernel_rfl) HSR rfl rfl rfl (fun w' hS => ?hRa1) ?_
      case hRa1 => first | (go_simp; rfl) | go_simp
      simp only [List.setIfInBounds_toArray, List.set_cons_zero, List.set_cons_succ]
      refine lx_rd 2 ?vRa2 (by kernel_rfl) (fun _ _ d _ _ h => by cases d <;> exact h) (by kernel_rfl) HSR rfl rfl rfl (fun w' hS => ?hRa2) ?_
      case hRa2 => first | (go_simp; rfl) | go_simp
      simp only [List.setIfInBounds_toArray, List.set_cons_zero, List.set_cons_succ]
      refine lx_rd 3 ?vRa3 (by kernel_rfl) (fun _ _ d _ _ h => by cases d <;> exact h) (by kernel_rfl) HSR rfl rfl rfl (fun w' hS => ?hRa3) ?_
      case hRa3 => first | (go_simp; rfl) | go_simp
      simp only [List.setIfInBounds_toArray, List.set_cons_zero, List.set_cons_succ]
      refine lx_rd 4 (.int .i64 j) (by kernel_rfl) (fun _ _ d _ _ h => by cases d <;> exact h) (by kernel_rfl) HSR rfl rfl rfl (fun w' hS => ?hRa4) ?_
      case hRa4 => subst hS; first | (go_simp; rfl) | go_simp
      simp only [List.setIfInBounds_toArray, List.set_cons_zero, List.set_cons_succ]
      refine lx_rd 5 ?vRa5 (by kernel_rfl) (fun _ _ d _ _ h => by cases d <;> exact h) (by kernel_rfl) HSR rfl rfl rfl (fun w' hS => ?hRa5) ?_
      case hRa5 => first | (go_simp; rfl) | go_simp
      simp only [List.setIfInBounds_toArray, List.set_cons_zero, List.set_cons_succ]
      refine lx_rd 6 (.int .i64 na) (by kernel_rfl) (fun _ _ d _ _ h => by cases d <;> exact h) (by kernel_rfl) HSR rfl rfl rfl (fun w' hS => ?hRa6) ?_
      case hRa6 => subst hS; first | (go_simp; rfl) | go_simp
      simp only [List.setIfInBounds_toArray, List.set_cons_zero, List.set_cons_succ]
      refine lx_rd 7 (.bool false) (by kernel_rfl) (fun _ _ d _ _ h => by cases d <;> exact h) (by kernel_rfl) HSR rfl rfl rfl (fun w' hS => ?hRa7) ?_
      case hRa7 => first | (go_simp; rfl) | go_simp
      simp only [List.setIfInBounds_toArray, List.set_cons_zero, List.set_cons_succ]
      refine lx_rd 8 (.bool false) (by kernel_rfl) (fun _ _ d _ _ h => by cases d <;> exact h) (by kernel_rfl) HSR rfl rfl rfl (fun w' hS => ?hRa8) ?_
      case hRa8 => first | (go_simp; rfl) | go_simp
      simp only [List.setIfInBounds_toArray, List.set_cons_zero, List.set_cons_succ]
      refine lx_rd 9 ?vRa9 (by kernel_rfl) (fun _ _ d _ _ h => by cases d <;> exact h) (by kernel_rfl) HSR rfl rfl rfl (fun w' hS => ?hRa9) ?_
      case hRa9 => first | (go_simp; rfl) | go_simp
      simp only [List.setIfInBounds_toArray, List.set_cons_zero, List.set_cons_succ]
      refine lx_rd 10 ?vRa10 (by kernel_rfl) (fun _ _ d _ _ h => by cases d <;> exact h) (by kernel_rfl) HSR rfl rfl rfl (fun w' hS => ?hRa10) ?_
      case hRa10 => first | (go_simp; rfl) | go_simp
      simp only [List.setIfInBounds_toArray, List.set_cons_zero, List.set_cons_succ]
      refine lx_rd 11 ?vRa11 (by kernel_rfl) (fun _ _ d _ _ h => by cases d <;> exact h) (by kernel_rfl) HSR rfl rfl rfl (fun w' hS => ?hRa11) ?_
      case hRa11 => first | (go_simp; rfl) | go_simp
      simp only [List.setIfInBounds_toArray, List.set_cons_zero, List.set_cons_succ]
      refine lx_rd 12 (.int .i64 na) (by kernel_rfl) (fun _ _ d _ _ h => by cases d <;> exact h) (by kernel_rfl) HSR rfl rfl rfl (fun w' hS => ?hRa12) ?_
      case hRa12 => subst hS; first | (go_simp; rfl) | go_simp
      simp only [List.setIfInBounds_toArray, List.set_cons_zero, List.set_cons_succ]
      refine lx_rd 13 (.slice ab na cb) (by kernel_rfl) (fun _ _ d _ _ h => by cases d <;> exact h) (by kernel_rfl) HSR rfl rfl rfl (fun w' hS => ?hRa13) ?_
      case hRa13 => first | (go_simp; rfl) | go_simp
      simp only [List.setIfInBounds_toArray, List.set_cons_zero, List.set_cons_succ]
      refine lx_rd 14 (.string SA) (by kernel_rfl) (fun _ _ d _ _ h => by cases d <;> exact h) (by kernel_rfl) HSR rfl rfl rfl (fun w' hS => ?hRa14) ?_
      case hRa14 => subst hS; first | (go_simp; rfl) | go_simp
      simp only [List.setIfInBounds_toArray, List.set_cons_zero, List.set_cons_succ]
      refine lx_rd 15 ?vRa15 (by kernel_rfl) (fun _ _ d _ _ h => by cases d <;> exact h) (by kernel_rfl) HSR rfl rfl rfl (fun w' hS => ?hRa15) ?_
      case hRa15 => first | (go_simp; rfl) | go_simp
      simp only [List.setIfInBounds_toArray, List.set_cons_zero, List.set_cons_succ]
      refine lx_rd 16 (.string SA) (by kernel_rfl) (fun _ _ d _ _ h => by cases d <;> exact h) (by kernel_rfl) HSR rfl rfl rfl (fun w' hS => ?hRa16) ?_
      case hRa16 => subst hS; first | (go_simp; rfl) | go_simp
      simp only [List.setIfInBounds_toArray, List.set_cons_zero, List.set_cons_succ]
      refine lx_rd 17 (.bool false) (by kernel_rfl) (fun _ _ d _ _ h => by cases d <;> exact h) (by kernel_rfl) HSR rfl rfl rfl (fun w' hS => ?hRa17) ?_
      case hRa17 => first | (go_simp; rfl) | go_simp
      simp only [List.setIfInBounds_toArray, List.set_cons_zero, List.set_cons_succ]
      refine lx_rd 18 (.bool false) (by kernel_rfl) (fun _ _ d _ _ h => by cases d <;> exact h) (by kernel_rfl) HSR rfl rfl rfl (fun w' hS => ?hRa18) ?_
      case hRa18 => first | (go_simp; rfl) | go_simp
      simp only [List.setIfInBounds_toArray, List.set_cons_zero, List.set_cons_succ]
      refine lx_rd 19 ?vRa19 (by kernel_rfl) (fun _ _ d _ _ h => by cases d <;> exact h) (by kernel_rfl) HSR rfl rfl rfl (fun w' hS => ?hRa19) ?_
      case hRa19 => first | (go_simp; rfl) | go_simp
      simp only [List.setIfInBounds_toArray, List.set_cons_zero, List.set_cons_succ]
      refine lx_rd 20 ?vRa20 (by kernel_rfl) (fun _ _ d _ _ h => by cases d <;> exact h) (by kernel_rfl) HSR rfl rfl rfl (fun w' hS => ?hRa20) ?_
      case hRa20 => first | (go_simp; rfl) | go_simp
      simp only [List.setIfInBounds_toArray, List.set_cons_zero, List.set_cons_succ]
      refine lx_rd 21 (.int .i64 j) (by kernel_rfl) (fun _ _ d _ _ h => by cases d <;> exact h) (by kernel_rfl) HSR rfl rfl rfl (fun w' hS => ?hRa21) ?_
      case hRa21 => subst hS; first | (go_simp; rfl) | go_simp
      simp only [List.setIfInBounds_toArray, List.set_cons_zero, List.set_cons_succ]
      refine lx_rd 22 ?vRa22 (by kernel_rfl) (fun _ _ d _ _ h => by cases d <;> exact h) (by kernel_rfl) HSR rfl rfl rfl (fun w' hS => ?hRa22) ?_
      case hRa22 => first | (go_simp; rfl) | go_simp
      simp only [List.setIfInBounds_toArray, List.set_cons_zero, List.set_cons_succ]
      refine lx_rd 23 (.int .i64 na) (by kernel_rfl) (fun _ _ d _ _ h => by cases d <;> exact h) (by kernel_rfl) HSR rfl rfl rfl (fun w' hS => ?hRa23) ?_
      case hRa23 => subst hS; first | (go_simp; rfl) | go_simp
      simp only [List.setIfInBounds_toArray, List.set_cons_zero, List.set_cons_succ]
      refine lx_rd 24 ?vRa24 (by kernel_rfl) (fun _ _ d _ _ h => by cases d <;> exact h) (by kernel_rfl) HSR rfl rfl rfl (fun w' hS => ?hRa24) ?_
      case hRa24 => first | (go_simp; rfl) | go_simp
      simp only [List.setIfInBounds_toArray, List.set_cons_zero, List.set_cons_succ]
      refine lx_rd 25 (.int .i64 nl) (by kernel_rfl) (fun _ _ d _ _ h => by cases d <;> exact h) (by kernel_rfl) HSR rfl rfl rfl (fun w' hS => ?hRa25) ?_
      case hRa25 => subst hS; first | (go_simp; rfl) | go_simp
      simp only [List.setIfInBounds_toArray, List.set_cons_zero, List.set_cons_succ]
      refine lx_rd 26 (.int .i64 ((na : Int) + nl)) (by kernel_rfl) (fun _ _ d _ _ h => by cases d <;> exact h) (by kernel_rfl) HSR rfl rfl rfl (fun w' hS => ?hRa26) ?_
      case hRa26 => first | (go_simp; rfl) | go_simp
      simp only [List.setIfInBounds_toArray, List.set_cons_zero, List.set_cons_succ]
      refine lx_rd 27 (.bool false) (by kernel_rfl) (fun _ _ d _ _ h => by cases d <;> exact h) (by kernel_rfl) HSR rfl rfl rfl (fun w' hS => ?hRa27) ?_
      case hRa27 => first | (go_simp; rfl) | go_simp
      simp only [List.setIfInBounds_toArray, List.set_cons_zero, List.set_cons_succ]
      refine lx_rd 28 (.bool false) (by kernel_rfl) (fun _ _ d _ _ h => by cases d <;> exact h) (by kernel_rfl) HSR rfl rfl rfl (fun w' hS => ?hRa28) ?_
      case hRa28 => first | (go_simp; rfl) | go_simp
      simp only [List.setIfInBounds_toArray, List.set_cons_zero, List.set_cons_succ]
      refine lx_nil (by kernel_rfl) ?_
      clear HSR hst1 hst2 hlnb hlna hlnl hc1 hc2 hw1 ra22 rl22 rb22'
      go_upto_region 21 with fail
      have hBY : Below W.heap.size W X.drew := hBX.drew
      have hDY : DiskAt X.drew F21 d k21 := hDX.keep (S := fun _ => False) ((Keep.refl _ _).drew) (fun _ _ h => h)
      have oaY : X.drew.ownsRow W.heap.size 5 1 (.slice aa na ca) na (bc A) := own_keep (S := fun _ => False) oaX ((Keep.refl _ _).drew) (fun _ _ h => h)
      have olY : X.drew.ownsRow W.heap.size 5 1 (.slice al nl cl) nl (bc B) := own_keep (S := fun _ => False) olX ((Keep.refl _ _).drew) (fun _ _ h => h)
      have obY : X.drew.ownsRow W.heap.size 5 1 (.slice ab j cb) j (bc bs) := own_keep (S := fun _ => False) obX ((Keep.refl _ _).drew) (fun _ _ h => h)
      refine wp_region_lx (fun w' => Below X.drew.heap.size X.drew w') [] 11 (by kernel_rfl) (by kernel_rfl) ?_
      generalize X.drew = Yw at *
      clear hBX hDX oaX olX obX
      have raY : Rd Yw aa na ca A := Rd.ofRow oaY hAb
      have rlY : Rd Yw al nl cl B := Rd.ofRow olY (HBd.out)
      have rbY : Rd Yw ab j cb bs := Rd.ofRow obY hbsb
      obtain ⟨SB, HSB⟩ : ∃ SB, Hid (strOfNums bs = SB) := ⟨_, rfl⟩
      have hcv : ∀ w', Below Yw.heap.size Yw w' → (convert 31 9 (.slice ab j cb)).run Try.prog w' = .ok (.string SB) w' := fun w' hb => by rw [← HSB.out]; exact (rbY.carry (Nat.le_refl _) hb).string
      have hlnb := fun w => len_slice ab j cb 31 3 w Try.underlying31
      have HS2R : Below Yw.heap.size Yw Yw := Below.refl _ _
      refine lx_rd 0 ?vRb0 (by kernel_rfl) (fun _ _ d _ _ h => by cases d <;> exact h) (by kernel_rfl) HS2R rfl rfl rfl (fun w' hS => ?hRb0) ?_
      case hRb0 => first | (go_simp; rfl) | go_simp
      simp only [List.setIfInBounds_toArray, List.set_cons_zero, List.set_cons_succ]
      refine lx_rd 1 (.string SB) (by kernel_rfl) (fun _ _ d _ _ h => by cases d <;> exact h) (by kernel_rfl) HS2R rfl rfl rfl (fun w' hS => ?hRb1) ?_
      case hRb1 => have hcv' := hcv _ hS; first | (go_simp; rfl) | go_simp
      simp only [List.setIfInBounds_toArray, List.set_cons_zero, List.set_cons_succ]
      refine lx_rd 2 ?vRb2 (by kernel_rfl) (fun _ _ d _ _ h => by cases d <;> exact h) (by kernel_rfl) HS2R rfl rfl rfl (fun w' hS => ?hRb2) ?_
      case hRb2 => first | (go_simp; rfl) | go_simp
      simp only [List.setIfInBounds_toArray, List.set_cons_zero, List.set_cons_succ]
      refine lx_rd 4 ?vRb4 (by kernel_rfl) (fun _ _ d _ _ h => by cases d <;> exact h) (by kernel_rfl) HS2R rfl rfl rfl (fun w' hS => ?hRb4) ?_
      case hRb4 => first | (go_simp; rfl) | go_simp
      simp only [List.setIfInBounds_toArray, List.set_cons_zero, List.set_cons_succ]
      refine lx_rd 7 ?vRb7 (by kernel_rfl) (fun _ _ d _ _ h => by cases d <;> exact h) (by kernel_rfl) HS2R rfl rfl rfl (fun w' hS => ?hRb7) ?_
      case hRb7 => first | (go_simp; rfl) | go_simp
      simp only [List.setIfInBounds_toArray, List.set_cons_zero, List.set_cons_succ]
      refine lx_rd 8 (.int .i64 j) (by kernel_rfl) (fun _ _ d _ _ h => by cases d <;> exact h) (by kernel_rfl) HS2R rfl rfl rfl (fun w' hS => ?hRb8) ?_
      case hRb8 => first | (go_simp; rfl) | go_simp
      simp only [List.setIfInBounds_toArray, List.set_cons_zero, List.set_cons_succ]
      refine lx_one 3 (by kernel_rfl) (stepT_call 12 ?a3R rfl rfl rfl ?r3R ?_)
      case r3R => first | (go_simp; rfl) | go_simp
      refine (fewO aa na ca A Yw raY).mono ?_
      rintro e w23 ⟨a23, n23, c23, rfl, hn23, o23, r23, hb23⟩
      refine ⟨_, rfl, fun _ => hb23, ?_⟩
      simp only [List.setIfInBounds_toArray, List.set_cons_zero, List.set_cons_succ]
      have hA100 : A.take 100 = A := List.take_of_length_le (by omega)
      rw [hA100] at o23 r23
      have hn23' : n23 = na := by have := r23.len; omega
      subst hn23'
      obtain ⟨v24, w24, hrun24, o24, hb24⟩ := run_appG 31 o23 (rlY.carry (Nat.le_refl _) hb23) (by omega) hb23.size
      have hb24' := hb23.trans hb24
      refine lx_one 5 (by kernel_rfl) (stepT_val (w' := w24) v24 rfl rfl rfl (exec_appG rfl rfl rfl hrun24) (fun _ => hb24') ?_)
      simp only [List.setIfInBounds_toArray, List.set_cons_zero, List.set_cons_succ]
      obtain ⟨a24, c24, rfl, r24⟩ := Rd.ofOwn o24 (hAb.append (HBd.out))
      have hcv24 := r24.string
      obtain ⟨SC, HSC⟩ : ∃ SC, Hid (strOfNums (A ++ B) = SC) := ⟨_, rfl⟩
      rw [HSC.out] at hcv24
      have hSCz : SC.size = n23 + nl := by rw [← HSC.out, str_sizeG, List.length_append]; omega
      have hext : SC.extract 0 j = SB := by rw [← HSC.out, str_takeG, Hbs.out, HSB.out]
      refine lx_one 6 (by kernel_rfl) (stepT_val (w' := w24) (.string SC) rfl rfl rfl ?r6R (fun _ => hb24') ?_)
      case r6R => first | (go_simp; rfl) | go_simp
      simp only [List.setIfInBounds_toArray, List.set_cons_zero, List.set_cons_succ]
      have hjs : (j : Int) ≤ (SC.size : Int) := by omega
      have hjs2 : j ≤ SC.size := by omega
      refine lx_one 9 (by kernel_rfl) (stepT_val (w' := w24) (.string SB) rfl rfl rfl ?r9R (fun _ => hb24') ?_)
      case r9R => first | (go_simp; rfl) | (go_simp; done) | (go_simp; intro hh; exfalso; omega)
      simp only [List.setIfInBounds_toArray, List.set_cons_zero, List.set_cons_succ]
      refine lx_one 10 (by kernel_rfl) (stepT_val (w' := w24) (.bool false) rfl rfl rfl ?r10R (fun _ => hb24') ?_)
      case r10R => first | (go_simp; rfl) | go_simp
      simp only [List.setIfInBounds_toArray, List.set_cons_zero, List.set_cons_succ]
      refine lx_nil (by kernel_rfl) ?_
      have hB24 := hBY.trans (hb24'.mono hBY.size)
      have hD24 := hDY.below hb24'
      have ob24 := own_keep (S := fun _ => False) obY (Keep.ofBelow hb24') (fun _ _ h => h)
      have hbF24 : Apt F21 (.slice ab j cb) := hbF22
      obtain ⟨g1, g2⟩ := restG hrfs Hbl.out
      have hR2 := restart_any d F21 k21 0 (.slice none 0 0) [] (by rw [hrfs]; show 1 < 1000000; omega) w24 hD24 (irn w24) (fun h => absurd rfl h)
      obtain ⟨k25, hk25⟩ : ∃ k25, restK k21 [] = k25 := ⟨_, rfl⟩
      rw [hk25] at g1 g2 hR2
      clear hk25 hcv hcv24 hext hSCz hjs hjs2 hrun24 o24 r24 o23 r23 hb23 hb24 raY rlY rbY oaY olY obY hDY hBY HS2R hlnb hA100
      go_upto_region 24 with (first
        | (go_at_call 16; refine hR2.mono ?_; rintro e w25 ⟨rfl, F25, hD25, hk25, hF25⟩))
      have hB25 : Below W.heap.size W w25 := hB24.trans (hk25.low hB24.size hF21')
      have ob25 := own_keep ob24 hk25 hbF24
      have hRd2 := read_any d F25 k25 sG w25 hD25
      rw [readG g2 g1] at hRd2
      dsimp only at hRd2
      rw [Hbl.out] at hRd2
      unfold sG at hRd2
      go_upto_region 25 with (first
        | (go_at_call 18; refine hRd2.mono ?_; rintro e w26 ⟨v26, rfl, oc26, hb26⟩; obtain ⟨ac, cc, rfl, rc26⟩ := Rd.ofOwn (n := j) oc26 hbsb))
      have rb26 : Rd w26 ab j cb bs := (Rd.ofRow ob25 hbsb).carry (Nat.le_refl _) hb26
      have hx1 := rc26.string
      have hx2 := rb26.string
      rw [HSB.out] at hx1 hx2
      clear hRd2 hR2 rc26 rb26 oc26
      go_wp2
      go_ret
      exact ⟨rfl, hB25.trans (hb26.mono hB25.size)⟩

end Go.Proofs.Ytimfidhehikaiaa
