/- Texts of one seat, one behind the other: RoBq. -/
import Derived.Test.YtppdopcghnfapaaGreatDoorM7
/- RosterBounds: the walk (written by robq_gen.py). -/
set_option maxRecDepth 100000
namespace Go.Proofs.YtppdopcghnfapaaGreatDoor
open Go.RowKit Go.Joins Go.Shelf Go.Sort

theorem exec_load_midP {o : Oper} {ρ : Operand → Value} {w : World} (ty : TypeId) (x : Operand) (ho : o.op = .load ty x) (b off : Nat) (hx : ρ x = .pointer (some ⟨b, off, none⟩)) (cs : List Value) (d : TypeDesc) (hc : w.rangeAt b off cs)
    (hu : Tryz.prog.underlying ty = some d) (hd : d.isRow = true) (hi : (Tryz.prog.info? ty).map (·.size) = some cs.length) :
    (execOp ρ o).run Tryz.prog w = .ok (.value (.agg cs.toArray)) w := by
  unfold execOp
  simp only [ho, hx, Instr.loadAt, Instr.sureAddr, Sem.run_bind, Sem.run_pure, Result.andThen_ok, run_loadVar_mid w b off ty cs d hc hu hd hi]
theorem rem_in (x m : Int) (hm : 0 < m) (hm2 : m ≤ 5) : 0 ≤ (wrap64 (x.tmod m + m)).tmod m ∧ (wrap64 (x.tmod m + m)).tmod m ≤ m - 1 := by
  have h1 := Int.lt_tmod_of_pos x hm
  have h2 := Int.tmod_lt_of_pos x hm
  rw [IntWalk.wrap64_in _ (by omega)]
  have h3 := Int.tmod_nonneg m (show 0 ≤ x.tmod m + m by omega)
  have h4 := Int.tmod_lt_of_pos (x.tmod m + m) hm
  omega
/-- The roster of the law, new. -/
theorem sb_new {w' : World} {q mb : Nat} {it ak : Int} (h : RA w' q mb (newR it ak)) (hb : 0 ≤ it ∧ it ≤ 4 ∧ 0 ≤ ak ∧ ak ≤ 3) : Sbt w' q mb it ak 0 (newR it ak) (fun _ => []) :=
  ⟨h, ⟨⟨(fun s x h => by cases h), (fun s x h => by cases h), (fun s x h => by cases h)⟩, fun _ _ => rfl⟩, rb_new it ak hb.1 hb.2.2.1, ⟨rfl, rfl⟩, hb, ⟨Int.le_refl _, Int.le_refl _⟩, ⟨Int.le_refl _, Int.le_refl _⟩⟩
section
variable {w : World} {p : Nat} {o : Op6}
theorem op6_c1 (h : w.heap[p]? = some (.cells (oc6 o) 35 (0, 0))) : w.cell? ⟨p, 1, none⟩ = some (.string o.c) := by rw [cell_of_block h]; rfl
theorem op6_c2 (h : w.heap[p]? = some (.cells (oc6 o) 35 (0, 0))) : w.cell? ⟨p, 2, none⟩ = some (.string o.nm) := by rw [cell_of_block h]; rfl
theorem op6_c3 (h : w.heap[p]? = some (.cells (oc6 o) 35 (0, 0))) : w.cell? ⟨p, 3, none⟩ = some (.slice o.ga o.gn o.gc) := by rw [cell_of_block h]; rfl
theorem op6_c4 (h : w.heap[p]? = some (.cells (oc6 o) 35 (0, 0))) : w.cell? ⟨p, 4, none⟩ = some (.int .i64 o.k) := by rw [cell_of_block h]; rfl
theorem op6_c5 (h : w.heap[p]? = some (.cells (oc6 o) 35 (0, 0))) : w.cell? ⟨p, 5, none⟩ = some (.int .u64 o.n) := by rw [cell_of_block h]; rfl
end
theorem Sbt.keep {w w' : World} {q mb : Nat} {it ak : Int} {k : Nat} {R : Ro} {G : ByteArray → List ByteArray} {S : Nat → Prop} (h : Sbt w q mb it ak k R G) (hk : Keep S w w') (hq : ¬ S q) (hm : ¬ S mb) (hs : ∀ b, Ty w b → ¬ S b) : Sbt w' q mb it ak k R G := ⟨h.ra.keep hk hq hm, h.rx.keep hk hs, h.rb, h.ib, h.bd, h.nx, h.ver⟩
theorem en_notTy {w : World} {g : Nat} {x : En} (h : EnAt w g x) : ∀ b, Ty w b → ¬ b = g := by
  rintro b ⟨cur, hb⟩ e
  subst e
  have h' : w.heap[b]? = some (.cells (enc x) 51 (0, 0)) := h
  rw [hb] at h'
  injection h' with h'
  injection h' with _ h' _
  cases h'
/-- What a call did to what Items tells: it counts whatever it did (bd), or Ver tells it. -/
def Mvd (R : Ro) (G : ByteArray → List ByteArray) (R' : Ro) (G' : ByteArray → List ByteArray) (b : Bool) : Prop := (b = true ∧ R'.ver = R.ver + 1) ∨ (b = false ∧ Moved R G R' G' false)
theorem mvd_put {R R' : Ro} {G G' : ByteArray → List ByteArray} {d : Nat} (m : Moved R G R' G' (decide (d = 0))) : Mvd R G R' G' ((d : Int) == 0) := by
  by_cases h : d = 0
  · subst h
    rcases m with ⟨_, _, h⟩ | ⟨h, _⟩
    · simp at h
    · exact Or.inl ⟨rfl, h⟩
  · have e : ((d : Int) == 0) = false := beq_eq_false_iff_ne.2 (by omega)
    rw [decide_eq_false h] at m
    rw [e]; exact Or.inr ⟨rfl, m⟩
set_option maxRecDepth 4000000 in
set_option maxHeartbeats 40000000 in
theorem rosterBounds_any (i0 j0 : Int) (a : Option Addr) (n c : Nat) (w : World) (hO : OSd w a n c) (hT : Lib.Utf8Tabs 2 3 w) :
    Calls Tryz.prog 5 #[.int .i64 i0, .int .i64 j0, .slice a n c] w fun e w' => e = .returned (.bool true) ∧ Below w.heap.size w w' := by
  have hcap := hO.cap
  have hmost := hO.most
  unfold maxLen at hmost
  have HO : Hid (OSd w a n c ∧ Lib.Utf8Tabs 2 3 w) := ⟨hO, hT⟩
  clear hO hT
  go_enter Tryz.func5, Tryz.ntmps5
  go_upto_region 2 with fail
  obtain ⟨it, Hit⟩ : ∃ it, Hid ((wrap64 (i0.tmod 5 + 5)).tmod 5 = it ∧ 0 ≤ it ∧ it ≤ 4) := ⟨_, rfl, (rem_in i0 5 (by decide) (by decide)).1, (rem_in i0 5 (by decide) (by decide)).2⟩
  obtain ⟨ak, Hak⟩ : ∃ ak, Hid ((wrap64 (j0.tmod 4 + 4)).tmod 4 = ak ∧ 0 ≤ ak ∧ ak ≤ 3) := ⟨_, rfl, (rem_in j0 4 (by decide) (by decide)).1, (rem_in j0 4 (by decide) (by decide)).2⟩
  rw [Hit.out.1, Hak.out.1]
  generalize wrap64 (i0.tmod 5 + 5) = z1
  generalize wrap64 (j0.tmod 4 + 4) = z2
  generalize i0.tmod 5 = z3
  generalize j0.tmod 4 = z4
  have cN := New_ok it ak (by unfold bnd; have := Hit.out; simp; omega) (by unfold bnd; have := Hak.out; simp; omega) w

  go_upto_region 3 with (go_at_call 7; refine cN.mono ?_; clear cN; rintro e w1 ⟨q, mb, rfl, h1, hq1, hm1, hb1⟩)
  have HQ : Hid (w.heap.size ≤ q ∧ w.heap.size ≤ mb) := ⟨hq1, hm1⟩
  have cW := rwakes_any w1 (tabs_bel HO.out.2 hb1)
  have HSt : Hid (Sbt w1 q mb it ak 0 (newR it ak) (fun _ => []) ∧ Below w.heap.size w w1) := ⟨sb_new h1 (by have := Hit.out; have := Hak.out; omega), hb1⟩
  clear h1 hq1 hm1 hb1
  go_upto_region 6 with (go_at_call 9; refine cW.mono ?_; clear cW; rintro e w2 ⟨rfl, hb2⟩)
  have HS2 : Hid (Sbt w2 q mb it ak 0 (newR it ak) (fun _ => []) ∧ Below w.heap.size w w2) := ⟨HSt.out.1.below hb2, HSt.out.2.trans (hb2.mono HSt.out.2.size)⟩
  clear HSt hb2
  go_loopw [11] (fun s11 wr => ∃ (k : Nat) (R : Ro) (G : ByteArray → List ByteArray), s11 = .int .i64 k ∧ k ≤ n ∧ k ≤ 150 ∧ Hid (Sbt wr q mb it ak k R G ∧ Below w.heap.size w wr)) (fun s11 _ => n - (intOf s11).toNat)
  case atStart => exact ⟨0, _, _, rfl, by omega, by omega, HS2⟩
  case round =>
    clear HS2
    obtain ⟨k, R, G, rfl, hk, hk2, HS⟩ := hrel
    by_cases hlt : k < n
    · have hcl : (k : Int) < (n : Int) := by omega
      by_cases hlt2 : k < 150
      · have hcl2 : (k : Int) < 150 := by omega
        obtain ⟨b, off, rfl, hce⟩ := HO.out.1.flat (by omega)
        obtain ⟨o, gs, hrg, hor⟩ := hce k hlt
        have hrw : Hid (wr.rangeAt b (off + k * 6) (oc6 o).toList) := range_below hrg HS.out.2
        have HGs : Hid (OpS w o gs) := hor
        clear hce hrg hor
        have S3 : Hid (Sbt (wr.alloc (.cells (oc6 o) 35)) q mb it ak k R G ∧ Below w.heap.size w (wr.alloc (.cells (oc6 o) 35)) ∧ (wr.alloc (.cells (oc6 o) 35)).heap[wr.heap.size]? = some (.cells (oc6 o) 35 (0, 0)) ∧ w.heap.size ≤ wr.heap.size) := ⟨HS.out.1.below (below1 _ _), HS.out.2.trans ((below1 _ _).mono HS.out.2.size), alloc_at wr _, HS.out.2.size⟩
        unfold oc6 at hrw S3
        go_upto_region 9 with (first
          | (refine wpList_load_mid rfl 35 (.tmp 57) rfl b (off + k * 6) rfl _ _ hrw.out Tryz.underlying35 rfl (by rw [infoOp6]; rfl) ?_; dsimp only [List.toList_toArray]))
        have Q5 : Hid (q < wr.heap.size ∧ mb < wr.heap.size) := ⟨HS.out.1.ra.lt, HS.out.1.ra.map.lt⟩
        generalize wr.heap.size = p at S3 Q5 ⊢
        generalize wr.alloc _ = w3 at S3 ⊢
        clear hrw
        have cV := ver_any w3 q mb R S3.out.1.ra
        have cI := sb_items S3.out.1
        go_upto_region 12 with (first
          | (go_at_call 16; refine cV.mono ?_; clear cV; rintro e w4 ⟨rfl, hw4⟩; replace hw4 := hw4.symm; subst hw4)
          | (go_at_call 17; refine cI.mono ?_; clear cI; rintro e w4 ⟨v0, es0, rfl, hL0, ho0, hc0, hn0, hb4⟩; obtain ⟨a0, c0, hv0⟩ := ownT_sl ho0; subst hv0))
        have B4 : Hid (Below w.heap.size w w4) := S3.out.2.1.trans (hb4.mono S3.out.2.1.size)
        have P4 : Hid (w4.heap[p]? = some (.cells #[.int .i64 o.d, .string o.c, .string o.nm, .slice o.ga o.gn o.gc, .int .i64 o.k, .int .u64 o.n] 35 (0, 0))) := box_below S3.out.2.2.1 hb4
        have S4 : Hid (Sbt w4 q mb it ak k R G) := S3.out.1.below hb4
        have Q3 : Hid (q < w3.heap.size ∧ mb < w3.heap.size ∧ p < w3.heap.size) := ⟨S3.out.1.ra.lt, S3.out.1.ra.map.lt, (Array.getElem?_eq_some_iff.1 S3.out.2.2.1).1⟩
        have L0 : Hid (Lst R G es0 ∧ (es0.length : Int) = R.kept) := ⟨hL0, hn0⟩
        have O4 : Hid (w4.ownsRow w3.heap.size 51 8 (.slice a0 es0.length c0) es0.length (ecs (sortE es0)) ∧ ∀ e ∈ es0, Copy w4 w3.heap.size R G e) := ⟨ho0, hc0⟩
        have Q4 : Hid (w3.heap.size ≤ w4.heap.size) := hb4.size
        clear S3 HS hL0 hn0 ho0 hc0 hb4
        have x0 : w4.cell? ⟨p, 0, none⟩ = some (.int .i64 o.d) := by rw [cell_of_block P4.out]; rfl
        obtain ⟨l0, Hl0⟩ : ∃ l0, Hid (es0.length = l0) := ⟨_, rfl⟩
        rw [Hl0.out] at O4 L0 ⊢
        have cK := fun s W => ktext_any s 80 W (by decide)
        go_upto_block 2 with fail
        go_cut [15, 16, 17] from 65 to 109 (fun s15 _ _ wx => ∃ (bd : Bool) (R5 : Ro) (G5 : ByteArray → List ByteArray), s15 = .bool bd ∧ Hid (Sbt wx q mb it ak (k + 1) R5 G5) ∧ Hid (Mvd R G R5 G5 bd) ∧ Hid (Keep (fun j => j = q ∨ j = mb) w4 wx))
        case first =>
          by_cases d1 : o.d = 1
          · have e1 : (o.d == 1) = true := by rw [d1]; rfl
            clear d1
            go_upto_region 14 with fail
            have HS0 : w4.drew.heap[p]? = some (.cells #[.int .i64 o.d, .string o.c, .string o.nm, .slice o.ga o.gn o.gc, .int .i64 o.k, .int .u64 o.n] 35 (0, 0)) := P4.out
            have HB0 : Below w4.heap.size w4 w4.drew := (Below.refl _ _).drew
            clear x0 e1
            refine wp_region_lx (fun w' => w'.heap[p]? = some (.cells #[.int .i64 o.d, .string o.c, .string o.nm, .slice o.ga o.gn o.gc, .int .i64 o.k, .int .u64 o.n] 35 (0, 0))) [] 17 (by kernel_rfl) (by kernel_rfl) ?_
            generalize w4.drew = W at HS0 HB0 ⊢
            refine lx_r 0 (.pointer (some ⟨q, 0, none⟩)) HS0 ?_; simp only [lxa, lxb, lxc]
            refine lx_r 1 (.pointer (some ⟨p, 1, none⟩)) HS0 ?_; simp only [lxa, lxb, lxc]
            refine lx_r 2 (.string o.c) HS0 ?_ (hv := fun w' hS => by have z1 := op6_c1 (o := o) hS; first | (go_simp; rfl) | go_simp); simp only [lxa, lxb, lxc]
            refine lx_r 4 (.pointer (some ⟨p, 2, none⟩)) HS0 ?_; simp only [lxa, lxb, lxc]
            refine lx_r 5 (.string o.nm) HS0 ?_ (hv := fun w' hS => by have z2 := op6_c2 (o := o) hS; first | (go_simp; rfl) | go_simp); simp only [lxa, lxb, lxc]
            refine lx_r 7 (.pointer (some ⟨p, 3, none⟩)) HS0 ?_; simp only [lxa, lxb, lxc]
            refine lx_r 8 (.slice o.ga o.gn o.gc) HS0 ?_ (hv := fun w' hS => by have z3 := op6_c3 (o := o) hS; first | (go_simp; rfl) | go_simp); simp only [lxa, lxb, lxc]
            refine lx_two 3 14 (by kernel_rfl) ?_ ?_
            · refine stepT_call 19 ?n1 rfl rfl rfl ?n2 ?_
              case n2 => first | (go_simp; rfl) | go_simp
              refine (cK o.c W).mono ?_
              rintro e w5 ⟨rfl, n3⟩; replace n3 := n3.symm; subst n3
              refine ⟨_, rfl, fun _ => HS0, ?_⟩
              simp only [lxa, lxb, lxc]
              refine lx_two 6 14 (by kernel_rfl) ?_ ?_
              · refine stepT_call 19 ?n4 rfl rfl rfl ?n5 ?_
                case n5 => first | (go_simp; rfl) | go_simp
                refine (cK o.nm W).mono ?_
                rintro e w5 ⟨rfl, n6⟩; replace n6 := n6.symm; subst n6
                refine ⟨_, rfl, fun _ => HS0, ?_⟩
                simp only [lxa, lxb, lxc]
                refine lx_two 9 14 (by kernel_rfl) ?_ ?_
                · refine stepT_call 20 ?n7 rfl rfl rfl ?n8 ?_
                  case n8 => first | (go_simp; rfl) | go_simp
                  refine (ktexts_any o.ga o.gn o.gc gs 12 80 W (HGs.out.below (B4.out.trans (HB0.mono B4.out.size))) (by decide) (by decide)).mono ?_
                  rintro e n9 ⟨v, rfl, n10, n11⟩
                  obtain ⟨⟨gb, gn, gc⟩, hv, en', n14, _⟩ := own_grd n10
                  replace hv : v = .slice (gad (gb, gn, gc)) gn gc := hv; subst hv; replace en' : gn = (cutG gs 12 80).length := en'; subst en'
                  have n13 := box_below HS0 n11
                  have n12 : Below w4.heap.size w4 n9 := HB0.trans (n11.mono HB0.size)
                  refine ⟨_, rfl, fun _ => n13, ?_⟩
                  simp only [lxa, lxb, lxc]
                  clear n10 n11 HB0 HS0
                  refine lx_two 10 14 (by kernel_rfl) ?_ ?_
                  · refine stepT_call 18 ?n15 rfl rfl rfl ?n16 ?_
                    case n16 => first | (go_simp; rfl) | go_simp
                    refine (sb_put (S4.out.below n12) (by omega) (cutB o.c 80) (cutB o.nm 80) (by have := cutB_size o.c 80; omega) (by have := cutB_size o.nm 80; omega) _ _ _ _ n14 (by have := n14.len; have := cutG_len gs 12 80; omega) (fun t ht => by have := cutG_size gs 12 80 t ht; omega) (tabs_bel HO.out.2 (B4.out.trans (n12.mono B4.out.size))) (prepB_le _)).mono ?_
                    rintro e n17 ⟨x5, d5, R5, G5, rfl, s5, m5, k5⟩
                    have n18 := box_keep n13 k5 (by have := Q5.out; omega)
                    have n19 : Keep (fun j => j = q ∨ j = mb) w4 n17 := (Keep.ofBelow n12).trans k5
                    refine ⟨_, rfl, fun _ => n18, ?_⟩
                    simp only [lxa, lxb, lxc]
                    clear k5
                    refine lx_r 11 (.tuple #[env x5, .int .i64 d5]) n18 ?_; simp only [lxa, lxb, lxc]
                    refine lx_r 12 (env x5) n18 ?_; simp only [lxa, lxb, lxc]
                    refine lx_r 13 (.int .i64 d5) n18 ?_; simp only [lxa, lxb, lxc]
                    have n27 := box_below n18 (below1 n17 oEn)
                    refine lx_one 14 (by kernel_rfl) (stepT_val (w' := n17.alloc oEn) (.pointer (some ⟨n17.heap.size, 0, none⟩)) rfl rfl rfl ?n25 (fun _ => n27) ?_)
                    case n25 => first | (go_simp; rfl) | go_simp
                    simp only [lxa, lxb, lxc]
                    have n23 : EnAt (n17.alloc oEn) n17.heap.size (en0 ⟨#[]⟩) := EnAt.made n17 (en0 ⟨#[]⟩)
                    have n29 := s5.below (below1 n17 oEn)
                    have n30 : Keep (fun j => j = q ∨ j = mb) w4 (n17.alloc oEn) := n19.trans (Keep.ofBelow (below1 n17 oEn))
                    have n24 : w4.heap.size ≤ n17.heap.size := n19.size
                    clear n18 s5 n19
                    generalize n17.heap.size = n21 at n27 n23 n24 n29 n30 ⊢
                    generalize n17.alloc oEn = n22 at n27 n23 n24 n29 n30 ⊢
                    have hz := box_keep n27 (rowK n22 n21 (enc x5)) (by have := Q3.out; have := (Array.getElem?_eq_some_iff.1 P4.out).1; omega)
                    have sz := n29.keep (rowK n22 n21 (enc x5)) (by have := Q4.out; have := Q3.out; have := Q5.out; omega) (by have := Q3.out; have := Q4.out; have := Q5.out; omega) (en_notTy n23)
                    have kz : Keep (fun j => j = q ∨ j = mb) w4 (n22.setRow n21 (enc x5)) := n30.andThen (rowK n22 n21 (enc x5)) (fun i hi e => by have := n24; omega)
                    refine lx_one 15 (by kernel_rfl) (stepT_store (w' := n22.setRow n21 (enc x5)) rfl rfl rfl ?n33 (fun _ => hz) ?_)
                    case n33 => exact exec_store_en (.tmp 16) (.tmp 79) rfl n21 rfl x5 rfl _ n23
                    generalize n22.setRow n21 (enc x5) = n35 at hz sz kz ⊢
                    refine lx_one 16 (by kernel_rfl) (stepT_val (w' := n35) (.int .i64 d5) rfl rfl rfl ?n34 (fun _ => hz) ?_)
                    case n34 => first | (go_simp; rfl) | (go_simp; done)
                    simp only [lxa, lxb, lxc]
                    refine lx_nil (by kernel_rfl) ?_
                    clear hz
                    generalize env x5 = V5
                    go_wp2_with fail
                    go_meet
                    exact ⟨_, R5, G5, rfl, sz, mvd_put m5, kz⟩
                  · have n42 := box_below n13 (below1 n9 oEn)
                    refine stepT_val (w' := n9.alloc oEn) (.pointer (some ⟨n9.heap.size, 0, none⟩)) rfl rfl rfl ?n40 (fun _ => n42) ?_
                    case n40 => first | (go_simp; rfl) | go_simp
                    simp only [lxa, lxb, lxc]
                    have n38 : EnAt (n9.alloc oEn) n9.heap.size (en0 ⟨#[]⟩) := EnAt.made n9 (en0 ⟨#[]⟩)
                    have n41 : Below w4.heap.size w4 (n9.alloc oEn) := n12.trans ((below1 n9 oEn).mono n12.size)
                    have n39 : w4.heap.size ≤ n9.heap.size := n12.size
                    have n43 := n14.below (below1 n9 oEn)
                    clear n13 n12 n14
                    generalize n9.heap.size = n36 at n42 n38 n39 n41 n43 ⊢
                    generalize n9.alloc oEn = n37 at n42 n38 n39 n41 n43 ⊢
                    refine lx_one 10 (by kernel_rfl) (stepT_call 18 ?n47 rfl rfl rfl ?n48 ?_)
                    case n48 => first | (go_simp; rfl) | go_simp
                    refine (sb_put (S4.out.below n41) (by omega) (cutB o.c 80) (cutB o.nm 80) (by have := cutB_size o.c 80; omega) (by have := cutB_size o.nm 80; omega) _ _ _ _ n43 (by have := n43.len; have := cutG_len gs 12 80; omega) (fun t ht => by have := cutG_size gs 12 80 t ht; omega) (tabs_bel HO.out.2 (B4.out.trans (n41.mono B4.out.size))) (prepB_le _)).mono ?_
                    rintro e n49 ⟨x5, d5, R5, G5, rfl, s5, m5, k5⟩
                    have n50 := box_keep n42 k5 (by have := Q5.out; omega)
                    have n51 : Keep (fun j => j = q ∨ j = mb) w4 n49 := (Keep.ofBelow n41).trans k5
                    have n52 := n38.keep k5 (by have := Q3.out; have := Q4.out; have := n39; omega)
                    refine ⟨_, rfl, fun _ => n50, ?_⟩
                    simp only [lxa, lxb, lxc]
                    clear k5
                    refine lx_r 11 (.tuple #[env x5, .int .i64 d5]) n50 ?_; simp only [lxa, lxb, lxc]
                    refine lx_r 12 (env x5) n50 ?_; simp only [lxa, lxb, lxc]
                    refine lx_r 13 (.int .i64 d5) n50 ?_; simp only [lxa, lxb, lxc]
                    have hz := box_keep n50 (rowK n49 n36 (enc x5)) (by have := Q3.out; have := (Array.getElem?_eq_some_iff.1 P4.out).1; omega)
                    have sz := s5.keep (rowK n49 n36 (enc x5)) (by have := Q4.out; have := Q3.out; have := Q5.out; omega) (by have := Q3.out; have := Q4.out; have := Q5.out; omega) (en_notTy n52)
                    have kz : Keep (fun j => j = q ∨ j = mb) w4 (n49.setRow n36 (enc x5)) := n51.andThen (rowK n49 n36 (enc x5)) (fun i hi e => by have := n39; omega)
                    refine lx_one 15 (by kernel_rfl) (stepT_store (w' := n49.setRow n36 (enc x5)) rfl rfl rfl ?n54 (fun _ => hz) ?_)
                    case n54 => exact exec_store_en (.tmp 16) (.tmp 79) rfl n36 rfl x5 rfl _ n52
                    generalize n49.setRow n36 (enc x5) = n56 at hz sz kz ⊢
                    refine lx_one 16 (by kernel_rfl) (stepT_val (w' := n56) (.int .i64 d5) rfl rfl rfl ?n55 (fun _ => hz) ?_)
                    case n55 => first | (go_simp; rfl) | (go_simp; done)
                    simp only [lxa, lxb, lxc]
                    refine lx_nil (by kernel_rfl) ?_
                    clear hz
                    generalize env x5 = V5
                    go_wp2_with fail
                    go_meet
                    exact ⟨_, R5, G5, rfl, sz, mvd_put m5, kz⟩
                · have n63 := box_below HS0 (below1 W oEn)
                  refine stepT_val (w' := W.alloc oEn) (.pointer (some ⟨W.heap.size, 0, none⟩)) rfl rfl rfl ?n61 (fun _ => n63) ?_
                  case n61 => first | (go_simp; rfl) | go_simp
                  simp only [lxa, lxb, lxc]
                  have n59 : EnAt (W.alloc oEn) W.heap.size (en0 ⟨#[]⟩) := EnAt.made W (en0 ⟨#[]⟩)
                  have n62 : Below w4.heap.size w4 (W.alloc oEn) := HB0.trans ((below1 W oEn).mono HB0.size)
                  have n60 : w4.heap.size ≤ W.heap.size := HB0.size
                  clear HS0 HB0
                  generalize W.heap.size = n57 at n63 n59 n60 n62 ⊢
                  generalize W.alloc oEn = n58 at n63 n59 n60 n62 ⊢
                  refine lx_one 9 (by kernel_rfl) (stepT_call 20 ?n68 rfl rfl rfl ?n69 ?_)
                  case n69 => first | (go_simp; rfl) | go_simp
                  refine (ktexts_any o.ga o.gn o.gc gs 12 80 n58 (HGs.out.below (B4.out.trans (n62.mono B4.out.size))) (by decide) (by decide)).mono ?_
                  rintro e n70 ⟨v, rfl, n71, n72⟩
                  obtain ⟨⟨gb, gn, gc⟩, hv, en', n75, _⟩ := own_grd n71
                  replace hv : v = .slice (gad (gb, gn, gc)) gn gc := hv; subst hv; replace en' : gn = (cutG gs 12 80).length := en'; subst en'
                  have n74 := box_below n63 n72
                  have n73 : Below w4.heap.size w4 n70 := n62.trans (n72.mono n62.size)
                  have n76 := n59.carry n72
                  refine ⟨_, rfl, fun _ => n74, ?_⟩
                  simp only [lxa, lxb, lxc]
                  clear n71 n72 n62 n63
                  refine lx_one 10 (by kernel_rfl) (stepT_call 18 ?n77 rfl rfl rfl ?n78 ?_)
                  case n78 => first | (go_simp; rfl) | go_simp
                  refine (sb_put (S4.out.below n73) (by omega) (cutB o.c 80) (cutB o.nm 80) (by have := cutB_size o.c 80; omega) (by have := cutB_size o.nm 80; omega) _ _ _ _ n75 (by have := n75.len; have := cutG_len gs 12 80; omega) (fun t ht => by have := cutG_size gs 12 80 t ht; omega) (tabs_bel HO.out.2 (B4.out.trans (n73.mono B4.out.size))) (prepB_le _)).mono ?_
                  rintro e n79 ⟨x5, d5, R5, G5, rfl, s5, m5, k5⟩
                  have n80 := box_keep n74 k5 (by have := Q5.out; omega)
                  have n81 : Keep (fun j => j = q ∨ j = mb) w4 n79 := (Keep.ofBelow n73).trans k5
                  have n82 := n76.keep k5 (by have := Q3.out; have := Q4.out; have := n60; omega)
                  refine ⟨_, rfl, fun _ => n80, ?_⟩
                  simp only [lxa, lxb, lxc]
                  clear k5
                  refine lx_r 11 (.tuple #[env x5, .int .i64 d5]) n80 ?_; simp only [lxa, lxb, lxc]
                  refine lx_r 12 (env x5) n80 ?_; simp only [lxa, lxb, lxc]
                  refine lx_r 13 (.int .i64 d5) n80 ?_; simp only [lxa, lxb, lxc]
                  have hz := box_keep n80 (rowK n79 n57 (enc x5)) (by have := Q3.out; have := (Array.getElem?_eq_some_iff.1 P4.out).1; omega)
                  have sz := s5.keep (rowK n79 n57 (enc x5)) (by have := Q4.out; have := Q3.out; have := Q5.out; omega) (by have := Q3.out; have := Q4.out; have := Q5.out; omega) (en_notTy n82)
                  have kz : Keep (fun j => j = q ∨ j = mb) w4 (n79.setRow n57 (enc x5)) := n81.andThen (rowK n79 n57 (enc x5)) (fun i hi e => by have := n60; omega)
                  refine lx_one 15 (by kernel_rfl) (stepT_store (w' := n79.setRow n57 (enc x5)) rfl rfl rfl ?n84 (fun _ => hz) ?_)
                  case n84 => exact exec_store_en (.tmp 16) (.tmp 79) rfl n57 rfl x5 rfl _ n82
                  generalize n79.setRow n57 (enc x5) = n86 at hz sz kz ⊢
                  refine lx_one 16 (by kernel_rfl) (stepT_val (w' := n86) (.int .i64 d5) rfl rfl rfl ?n85 (fun _ => hz) ?_)
                  case n85 => first | (go_simp; rfl) | (go_simp; done)
                  simp only [lxa, lxb, lxc]
                  refine lx_nil (by kernel_rfl) ?_
                  clear hz
                  generalize env x5 = V5
                  go_wp2_with fail
                  go_meet
                  exact ⟨_, R5, G5, rfl, sz, mvd_put m5, kz⟩
              · have n93 := box_below HS0 (below1 W oEn)
                refine stepT_val (w' := W.alloc oEn) (.pointer (some ⟨W.heap.size, 0, none⟩)) rfl rfl rfl ?n91 (fun _ => n93) ?_
                case n91 => first | (go_simp; rfl) | go_simp
                simp only [lxa, lxb, lxc]
                have n89 : EnAt (W.alloc oEn) W.heap.size (en0 ⟨#[]⟩) := EnAt.made W (en0 ⟨#[]⟩)
                have n92 : Below w4.heap.size w4 (W.alloc oEn) := HB0.trans ((below1 W oEn).mono HB0.size)
                have n90 : w4.heap.size ≤ W.heap.size := HB0.size
                clear HS0 HB0
                generalize W.heap.size = n87 at n93 n89 n90 n92 ⊢
                generalize W.alloc oEn = n88 at n93 n89 n90 n92 ⊢
                refine lx_one 6 (by kernel_rfl) (stepT_call 19 ?n98 rfl rfl rfl ?n99 ?_)
                case n99 => first | (go_simp; rfl) | go_simp
                refine (cK o.nm n88).mono ?_
                rintro e w5 ⟨rfl, n100⟩; replace n100 := n100.symm; subst n100
                refine ⟨_, rfl, fun _ => n93, ?_⟩
                simp only [lxa, lxb, lxc]
                refine lx_one 9 (by kernel_rfl) (stepT_call 20 ?n101 rfl rfl rfl ?n102 ?_)
                case n102 => first | (go_simp; rfl) | go_simp
                refine (ktexts_any o.ga o.gn o.gc gs 12 80 n88 (HGs.out.below (B4.out.trans (n92.mono B4.out.size))) (by decide) (by decide)).mono ?_
                rintro e n103 ⟨v, rfl, n104, n105⟩
                obtain ⟨⟨gb, gn, gc⟩, hv, en', n108, _⟩ := own_grd n104
                replace hv : v = .slice (gad (gb, gn, gc)) gn gc := hv; subst hv; replace en' : gn = (cutG gs 12 80).length := en'; subst en'
                have n107 := box_below n93 n105
                have n106 : Below w4.heap.size w4 n103 := n92.trans (n105.mono n92.size)
                have n109 := n89.carry n105
                refine ⟨_, rfl, fun _ => n107, ?_⟩
                simp only [lxa, lxb, lxc]
                clear n104 n105 n92 n93
                refine lx_one 10 (by kernel_rfl) (stepT_call 18 ?n110 rfl rfl rfl ?n111 ?_)
                case n111 => first | (go_simp; rfl) | go_simp
                refine (sb_put (S4.out.below n106) (by omega) (cutB o.c 80) (cutB o.nm 80) (by have := cutB_size o.c 80; omega) (by have := cutB_size o.nm 80; omega) _ _ _ _ n108 (by have := n108.len; have := cutG_len gs 12 80; omega) (fun t ht => by have := cutG_size gs 12 80 t ht; omega) (tabs_bel HO.out.2 (B4.out.trans (n106.mono B4.out.size))) (prepB_le _)).mono ?_
                rintro e n112 ⟨x5, d5, R5, G5, rfl, s5, m5, k5⟩
                have n113 := box_keep n107 k5 (by have := Q5.out; omega)
                have n114 : Keep (fun j => j = q ∨ j = mb) w4 n112 := (Keep.ofBelow n106).trans k5
                have n115 := n109.keep k5 (by have := Q3.out; have := Q4.out; have := n90; omega)
                refine ⟨_, rfl, fun _ => n113, ?_⟩
                simp only [lxa, lxb, lxc]
                clear k5
                refine lx_r 11 (.tuple #[env x5, .int .i64 d5]) n113 ?_; simp only [lxa, lxb, lxc]
                refine lx_r 12 (env x5) n113 ?_; simp only [lxa, lxb, lxc]
                refine lx_r 13 (.int .i64 d5) n113 ?_; simp only [lxa, lxb, lxc]
                have hz := box_keep n113 (rowK n112 n87 (enc x5)) (by have := Q3.out; have := (Array.getElem?_eq_some_iff.1 P4.out).1; omega)
                have sz := s5.keep (rowK n112 n87 (enc x5)) (by have := Q4.out; have := Q3.out; have := Q5.out; omega) (by have := Q3.out; have := Q4.out; have := Q5.out; omega) (en_notTy n115)
                have kz : Keep (fun j => j = q ∨ j = mb) w4 (n112.setRow n87 (enc x5)) := n114.andThen (rowK n112 n87 (enc x5)) (fun i hi e => by have := n90; omega)
                refine lx_one 15 (by kernel_rfl) (stepT_store (w' := n112.setRow n87 (enc x5)) rfl rfl rfl ?n117 (fun _ => hz) ?_)
                case n117 => exact exec_store_en (.tmp 16) (.tmp 79) rfl n87 rfl x5 rfl _ n115
                generalize n112.setRow n87 (enc x5) = n119 at hz sz kz ⊢
                refine lx_one 16 (by kernel_rfl) (stepT_val (w' := n119) (.int .i64 d5) rfl rfl rfl ?n118 (fun _ => hz) ?_)
                case n118 => first | (go_simp; rfl) | (go_simp; done)
                simp only [lxa, lxb, lxc]
                refine lx_nil (by kernel_rfl) ?_
                clear hz
                generalize env x5 = V5
                go_wp2_with fail
                go_meet
                exact ⟨_, R5, G5, rfl, sz, mvd_put m5, kz⟩
            · have n126 := box_below HS0 (below1 W oEn)
              refine stepT_val (w' := W.alloc oEn) (.pointer (some ⟨W.heap.size, 0, none⟩)) rfl rfl rfl ?n124 (fun _ => n126) ?_
              case n124 => first | (go_simp; rfl) | go_simp
              simp only [lxa, lxb, lxc]
              have n122 : EnAt (W.alloc oEn) W.heap.size (en0 ⟨#[]⟩) := EnAt.made W (en0 ⟨#[]⟩)
              have n125 : Below w4.heap.size w4 (W.alloc oEn) := HB0.trans ((below1 W oEn).mono HB0.size)
              have n123 : w4.heap.size ≤ W.heap.size := HB0.size
              clear HS0 HB0
              generalize W.heap.size = n120 at n126 n122 n123 n125 ⊢
              generalize W.alloc oEn = n121 at n126 n122 n123 n125 ⊢
              refine lx_one 3 (by kernel_rfl) (stepT_call 19 ?n131 rfl rfl rfl ?n132 ?_)
              case n132 => first | (go_simp; rfl) | go_simp
              refine (cK o.c n121).mono ?_
              rintro e w5 ⟨rfl, n133⟩; replace n133 := n133.symm; subst n133
              refine ⟨_, rfl, fun _ => n126, ?_⟩
              simp only [lxa, lxb, lxc]
              refine lx_one 6 (by kernel_rfl) (stepT_call 19 ?n134 rfl rfl rfl ?n135 ?_)
              case n135 => first | (go_simp; rfl) | go_simp
              refine (cK o.nm n121).mono ?_
              rintro e w5 ⟨rfl, n136⟩; replace n136 := n136.symm; subst n136
              refine ⟨_, rfl, fun _ => n126, ?_⟩
              simp only [lxa, lxb, lxc]
              refine lx_one 9 (by kernel_rfl) (stepT_call 20 ?n137 rfl rfl rfl ?n138 ?_)
              case n138 => first | (go_simp; rfl) | go_simp
              refine (ktexts_any o.ga o.gn o.gc gs 12 80 n121 (HGs.out.below (B4.out.trans (n125.mono B4.out.size))) (by decide) (by decide)).mono ?_
              rintro e n139 ⟨v, rfl, n140, n141⟩
              obtain ⟨⟨gb, gn, gc⟩, hv, en', n144, _⟩ := own_grd n140
              replace hv : v = .slice (gad (gb, gn, gc)) gn gc := hv; subst hv; replace en' : gn = (cutG gs 12 80).length := en'; subst en'
              have n143 := box_below n126 n141
              have n142 : Below w4.heap.size w4 n139 := n125.trans (n141.mono n125.size)
              have n145 := n122.carry n141
              refine ⟨_, rfl, fun _ => n143, ?_⟩
              simp only [lxa, lxb, lxc]
              clear n140 n141 n125 n126
              refine lx_one 10 (by kernel_rfl) (stepT_call 18 ?n146 rfl rfl rfl ?n147 ?_)
              case n147 => first | (go_simp; rfl) | go_simp
              refine (sb_put (S4.out.below n142) (by omega) (cutB o.c 80) (cutB o.nm 80) (by have := cutB_size o.c 80; omega) (by have := cutB_size o.nm 80; omega) _ _ _ _ n144 (by have := n144.len; have := cutG_len gs 12 80; omega) (fun t ht => by have := cutG_size gs 12 80 t ht; omega) (tabs_bel HO.out.2 (B4.out.trans (n142.mono B4.out.size))) (prepB_le _)).mono ?_
              rintro e n148 ⟨x5, d5, R5, G5, rfl, s5, m5, k5⟩
              have n149 := box_keep n143 k5 (by have := Q5.out; omega)
              have n150 : Keep (fun j => j = q ∨ j = mb) w4 n148 := (Keep.ofBelow n142).trans k5
              have n151 := n145.keep k5 (by have := Q3.out; have := Q4.out; have := n123; omega)
              refine ⟨_, rfl, fun _ => n149, ?_⟩
              simp only [lxa, lxb, lxc]
              clear k5
              refine lx_r 11 (.tuple #[env x5, .int .i64 d5]) n149 ?_; simp only [lxa, lxb, lxc]
              refine lx_r 12 (env x5) n149 ?_; simp only [lxa, lxb, lxc]
              refine lx_r 13 (.int .i64 d5) n149 ?_; simp only [lxa, lxb, lxc]
              have hz := box_keep n149 (rowK n148 n120 (enc x5)) (by have := Q3.out; have := (Array.getElem?_eq_some_iff.1 P4.out).1; omega)
              have sz := s5.keep (rowK n148 n120 (enc x5)) (by have := Q4.out; have := Q3.out; have := Q5.out; omega) (by have := Q3.out; have := Q4.out; have := Q5.out; omega) (en_notTy n151)
              have kz : Keep (fun j => j = q ∨ j = mb) w4 (n148.setRow n120 (enc x5)) := n150.andThen (rowK n148 n120 (enc x5)) (fun i hi e => by have := n123; omega)
              refine lx_one 15 (by kernel_rfl) (stepT_store (w' := n148.setRow n120 (enc x5)) rfl rfl rfl ?n153 (fun _ => hz) ?_)
              case n153 => exact exec_store_en (.tmp 16) (.tmp 79) rfl n120 rfl x5 rfl _ n151
              generalize n148.setRow n120 (enc x5) = n155 at hz sz kz ⊢
              refine lx_one 16 (by kernel_rfl) (stepT_val (w' := n155) (.int .i64 d5) rfl rfl rfl ?n154 (fun _ => hz) ?_)
              case n154 => first | (go_simp; rfl) | (go_simp; done)
              simp only [lxa, lxb, lxc]
              refine lx_nil (by kernel_rfl) ?_
              clear hz
              generalize env x5 = V5
              go_wp2_with fail
              go_meet
              exact ⟨_, R5, G5, rfl, sz, mvd_put m5, kz⟩
          · have e1 : (o.d == 1) = false := beq_eq_false_iff_ne.2 d1
            by_cases d2 : o.d = 2
            · have e2 : (o.d == 2) = true := by rw [d2]; rfl
              clear d1 d2
              have x1 : w4.cell? ⟨p, 1, none⟩ = some (.string o.c) := by rw [cell_of_block P4.out]; rfl
              have cD := sb_drop S4.out (by omega) (cutB o.c 80) (by have := cutB_size o.c 80; omega) (tabs_bel HO.out.2 B4.out) (prepB_le _)
              go_wp2_with (first
                | (go_at_call 19; refine (cK _ _).mono ?_; rintro e w5 ⟨rfl, hw5⟩; replace hw5 := hw5.symm; subst hw5)
                | (go_at_call 21; refine cD.mono ?_; clear cD; rintro e w5 ⟨x5, d5, R5, G5, rfl, s5, m5, k5⟩; obtain ⟨V5, HV5⟩ : ∃ V5, Hid (env x5 = V5) := ⟨_, rfl⟩; rw [HV5.out]))
              go_meet
              exact ⟨false, R5, G5, rfl, s5, Or.inr ⟨rfl, m5⟩, k5⟩
            · have e2 : (o.d == 2) = false := beq_eq_false_iff_ne.2 d2
              by_cases d4 : o.d = 4
              · have e4 : (o.d == 4) = true := by rw [d4]; rfl
                clear d1 d2 d4
                go_upto_region 19 with fail
                have HS0 : w4.drew.heap[p]? = some (.cells #[.int .i64 o.d, .string o.c, .string o.nm, .slice o.ga o.gn o.gc, .int .i64 o.k, .int .u64 o.n] 35 (0, 0)) := P4.out
                have HB0 : Below w4.heap.size w4 w4.drew := (Below.refl _ _).drew
                clear x0 e1 e2 e4
                refine wp_region_lx (fun w' => w'.heap[p]? = some (.cells #[.int .i64 o.d, .string o.c, .string o.nm, .slice o.ga o.gn o.gc, .int .i64 o.k, .int .u64 o.n] 35 (0, 0))) [] 7 (by kernel_rfl) (by kernel_rfl) ?_
                generalize w4.drew = W at HS0 HB0 ⊢
                refine lx_r 0 (.pointer (some ⟨q, 0, none⟩)) HS0 ?_; simp only [lxa, lxb, lxc]
                refine lx_r 1 (.pointer (some ⟨p, 1, none⟩)) HS0 ?_; simp only [lxa, lxb, lxc]
                refine lx_r 2 (.string o.c) HS0 ?_ (hv := fun w' hS => by have z1 := op6_c1 (o := o) hS; first | (go_simp; rfl) | go_simp); simp only [lxa, lxb, lxc]
                refine lx_r 4 (.pointer (some ⟨p, 4, none⟩)) HS0 ?_; simp only [lxa, lxb, lxc]
                refine lx_r 5 (.int .i64 o.k) HS0 ?_ (hv := fun w' hS => by have z4 := op6_c4 (o := o) hS; first | (go_simp; rfl) | go_simp); simp only [lxa, lxb, lxc]
                refine lx_one 3 (by kernel_rfl) (stepT_call 19 ?Ac0 rfl rfl rfl ?Ac1 ?_)
                case Ac1 => first | (go_simp; rfl) | go_simp
                refine (cK o.c W).mono ?_
                rintro e w5 ⟨rfl, hw5⟩; replace hw5 := hw5.symm; subst hw5
                refine ⟨_, rfl, fun _ => HS0, ?_⟩
                simp only [lxa, lxb, lxc]
                refine lx_one 6 (by kernel_rfl) (stepT_call 22 ?Ac2 rfl rfl rfl ?Ac3 ?_)
                case Ac3 => first | (go_simp; rfl) | go_simp
                refine (sb_act (S4.out.below HB0) (by omega) (cutB o.c 80) (by have := cutB_size o.c 80; omega) o.k (tabs_bel HO.out.2 (B4.out.trans (HB0.mono B4.out.size))) (prepB_le _)).mono ?_
                rintro e w5 ⟨a5, b5, d5, c5, R5, G5, rfl, s5, m5, k5⟩
                refine ⟨_, rfl, fun _ => box_keep HS0 k5 (by have := Q5.out; omega), ?_⟩
                simp only [lxa, lxb, lxc]
                refine lx_nil (by kernel_rfl) ?_
                have kz : Keep (fun j => j = q ∨ j = mb) w4 w5 := (Keep.ofBelow HB0).trans k5
                clear HS0 HB0 k5
                go_wp2_with fail
                go_meet
                exact ⟨false, R5, G5, rfl, s5, Or.inr ⟨rfl, m5⟩, kz⟩
              · have e4 : (o.d == 4) = false := beq_eq_false_iff_ne.2 d4
                by_cases d5 : o.d = 5
                · have e5 : (o.d == 5) = true := by rw [d5]; rfl
                  clear d1 d2 d4 d5
                  go_upto_region 21 with fail
                  have HS0 : w4.drew.heap[p]? = some (.cells #[.int .i64 o.d, .string o.c, .string o.nm, .slice o.ga o.gn o.gc, .int .i64 o.k, .int .u64 o.n] 35 (0, 0)) := P4.out
                  have HB0 : Below w4.heap.size w4 w4.drew := (Below.refl _ _).drew
                  clear x0 e1 e2 e4 e5
                  refine wp_region_lx (fun w' => w'.heap[p]? = some (.cells #[.int .i64 o.d, .string o.c, .string o.nm, .slice o.ga o.gn o.gc, .int .i64 o.k, .int .u64 o.n] 35 (0, 0))) [] 9 (by kernel_rfl) (by kernel_rfl) ?_
                  generalize w4.drew = W at HS0 HB0 ⊢
                  refine lx_r 0 (.pointer (some ⟨q, 0, none⟩)) HS0 ?_; simp only [lxa, lxb, lxc]
                  refine lx_r 1 (.pointer (some ⟨p, 1, none⟩)) HS0 ?_; simp only [lxa, lxb, lxc]
                  refine lx_r 2 (.string o.c) HS0 ?_ (hv := fun w' hS => by have z1 := op6_c1 (o := o) hS; first | (go_simp; rfl) | go_simp); simp only [lxa, lxb, lxc]
                  refine lx_r 4 (.pointer (some ⟨p, 4, none⟩)) HS0 ?_; simp only [lxa, lxb, lxc]
                  refine lx_r 5 (.int .i64 o.k) HS0 ?_ (hv := fun w' hS => by have z4 := op6_c4 (o := o) hS; first | (go_simp; rfl) | go_simp); simp only [lxa, lxb, lxc]
                  refine lx_r 6 (.pointer (some ⟨p, 5, none⟩)) HS0 ?_; simp only [lxa, lxb, lxc]
                  refine lx_r 7 (.int .u64 o.n) HS0 ?_ (hv := fun w' hS => by have z5 := op6_c5 (o := o) hS; first | (go_simp; rfl) | go_simp); simp only [lxa, lxb, lxc]
                  refine lx_one 3 (by kernel_rfl) (stepT_call 19 ?He0 rfl rfl rfl ?He1 ?_)
                  case He1 => first | (go_simp; rfl) | go_simp
                  refine (cK o.c W).mono ?_
                  rintro e w5 ⟨rfl, hw5⟩; replace hw5 := hw5.symm; subst hw5
                  refine ⟨_, rfl, fun _ => HS0, ?_⟩
                  simp only [lxa, lxb, lxc]
                  refine lx_one 8 (by kernel_rfl) (stepT_call 23 ?He2 rfl rfl rfl ?He3 ?_)
                  case He3 => first | (go_simp; rfl) | go_simp
                  refine (sb_hear (S4.out.below HB0) (by omega) (cutB o.c 80) (by have := cutB_size o.c 80; omega) o.k o.n (tabs_bel HO.out.2 (B4.out.trans (HB0.mono B4.out.size))) (prepB_le _)).mono ?_
                  rintro e w5 ⟨a5, d5, b5, c5, R5, G5, rfl, s5, m5, k5⟩
                  refine ⟨_, rfl, fun _ => box_keep HS0 k5 (by have := Q5.out; omega), ?_⟩
                  simp only [lxa, lxb, lxc]
                  refine lx_nil (by kernel_rfl) ?_
                  have kz : Keep (fun j => j = q ∨ j = mb) w4 w5 := (Keep.ofBelow HB0).trans k5
                  clear HS0 HB0 k5
                  go_wp2_with fail
                  go_meet
                  exact ⟨false, R5, G5, rfl, s5, Or.inr ⟨rfl, m5⟩, kz⟩
                · have e5 : (o.d == 5) = false := beq_eq_false_iff_ne.2 d5
                  clear d1 d2 d4 d5
                  go_wp2_with fail
                  go_meet
                  exact ⟨false, R, G, rfl, S4.out.next (Stay.refl R) (Moved.refl R G) S4.out.ra S4.out.rx S4.out.rb, Or.inr ⟨rfl, Moved.refl R G⟩, Keep.refl _ _⟩
        case rest =>
          obtain ⟨bd, R5, G5, rfl, S5, M5, K5⟩ := hcut
          have B5 : Hid (Below w.heap.size w wc) := B4.out.trans (K5.out.below B4.out.size (fun j e => by have := HQ.out; omega))
          have O5 : Hid (wc.ownsRow w3.heap.size 51 8 (.slice a0 l0 c0) l0 (ecs (sortE es0)) ∧ ∀ e ∈ es0, Copy wc w3.heap.size R G e) := ⟨own_keep O4.out.1 K5.out (fun j hj e => by have := (O4.out.1.lt j hj).1; have := Q3.out; omega), fun e he => (O4.out.2 e he).keep K5.out (fun b hb => ra_notTy S4.out.ra hb)⟩
          have cI5 := sb_items S5.out
          have HRV : Hid (0 ≤ R.ver ∧ R.ver ≤ k) := S4.out.ver
          clear K5 x0 B4 S4 O4 P4 cK
          go_upto_region 24 with (first
            | (go_at_call 17; refine cI5.mono ?_; clear cI5; rintro e w6 ⟨v1, es1, rfl, hL1, ho1, hc1, hn1, hb6⟩; replace hn1 : Hid _ := hn1; obtain ⟨a1, c1, hv1⟩ := ownT_sl ho1; subst hv1))
          have B6 : Hid (Below w.heap.size w w6) := B5.out.trans (hb6.mono B5.out.size)
          have S6 : Hid (Sbt w6 q mb it ak (k + 1) R5 G5) := S5.out.below hb6
          have L1 : Hid (Lst R5 G5 es1 ∧ (es1.length : Int) = R5.kept) := ⟨hL1, hn1.out⟩
          have O6 : Hid (w6.ownsRow w3.heap.size 51 8 (.slice a0 l0 c0) l0 (ecs (sortE es0)) ∧ ∀ e ∈ es0, Copy w6 w3.heap.size R G e) := ⟨own_keep (S := fun _ => False) O5.out.1 (Keep.ofBelow hb6) (fun _ _ h => h), fun e he => (O5.out.2 e he).keep (S := fun _ => False) (Keep.ofBelow hb6) (fun _ _ h => h)⟩
          have N6 : Hid (w6.ownsRow wc.heap.size 51 8 (.slice a1 es1.length c1) es1.length (ecs (sortE es1)) ∧ ∀ e ∈ es1, Copy w6 wc.heap.size R5 G5 e) := ⟨ho1, hc1⟩
          clear S5 O5 B5 hL1 hn1 ho1 hc1 hb6
          obtain ⟨l1, Hl1⟩ : ∃ l1, Hid (es1.length = l1) := ⟨_, rfl⟩
          rw [Hl1.out] at N6 L1 ⊢
          obtain ⟨bl0, Hbl⟩ : ∃ bl0, Hid (((l1 : Int) == (l0 : Int)) = bl0) := ⟨_, rfl⟩
          rw [Hbl.out]
          go_upto_region 25 with fail
          have HI0 : Hid (∃ j : Nat, j ≤ l1 ∧ j = 0) := ⟨0, Nat.zero_le _, rfl⟩
          go_loopw [19, 20] (fun s19 s20 wz => ∃ (j : Nat) (bb : Bool), s19 = .bool bb ∧ s20 = .int .i64 j ∧ j ≤ l1 ∧ Hid (bb = true → l1 = l0 ∧ ∀ (i : Nat) (x y : En), i < j → (sortE es1)[i]? = some x → (sortE es0)[i]? = some y → sameE x y (G5 x.c) (G y.c) = true) ∧ Hid (bb = false → allSame G5 G (sortE es1) (sortE es0) = false) ∧ Hid (Below w6.heap.size w6 wz)) (fun _ s20 _ => l1 - (intOf s20).toNat)
          case atStart =>
            refine ⟨0, _, rfl, rfl, by omega, fun e => ⟨?_, fun i x y hi => by omega⟩, fun e => ?_, Below.refl _ _⟩
            · rw [← Hbl.out] at e
              have := beq_iff_eq.1 e
              omega
            · rw [← Hbl.out] at e
              have := beq_eq_false_iff_ne.1 e
              refine Bool.eq_false_iff.2 fun h => this ?_
              have h2 := (allSame_iff.1 h).1
              rw [(sortE_perm es1).length_eq, (sortE_perm es0).length_eq, Hl1.out, Hl0.out] at h2
              omega
          case round =>
            obtain ⟨j, bb, rfl, rfl, hj, HT1, HT2, HBz⟩ := hrel
            by_cases hlt3 : j < l1
            · have hcl3 : (j : Int) < (l1 : Int) := by omega
              cases bb with
              | true =>
                have hll : Hid (l1 = l0) := (HT1.out rfl).1
                obtain ⟨g1, x, e1, hx, q1, q2, hr1⟩ := own_at (own_keep (S := fun _ => False) N6.out.1 (Keep.ofBelow HBz.out) (fun _ _ h => h)) hlt3
                obtain ⟨g0, y, e0, hy, q3, q4, hr0⟩ := own_at (own_keep (S := fun _ => False) O6.out.1 (Keep.ofBelow HBz.out) (fun _ _ h => h)) (show j < l0 by have := hll.out; omega)
                subst e1 e0
                have HXY : Hid ((sortE es1)[j]? = some x ∧ (sortE es0)[j]? = some y) := ⟨hx, hy⟩
                have hcl4 : (j : Int) < (l0 : Int) := by have := hll.out; omega
                unfold maxLen at q2 q4
                have HS0 : wr.drew.rangeAt g1 (j * 8) (enc x).toList ∧ wr.drew.rangeAt g0 (j * 8) (enc y).toList := ⟨hr1, hr0⟩
                clear hx hy hr1 hr0
                go_upto_region 27 with fail
                refine wp_region_lx (fun w' => w'.rangeAt g1 (j * 8) (enc x).toList ∧ w'.rangeAt g0 (j * 8) (enc y).toList) [] 10 (by kernel_rfl) (by kernel_rfl) ?_
                refine lx_r 0 (.slice (some ⟨g1, 0, none⟩) l1 c1) HS0 ?_; simp only [lxa, lxb, lxc]
                refine lx_r 1 (.int .i64 j) HS0 ?_; simp only [lxa, lxb, lxc]
                refine lx_r 2 (.pointer (some ⟨g1, j * 8, none⟩)) HS0 ?_; simp only [lxa, lxb, lxc]
                refine lx_r 3 (env x) HS0 ?_ (hv := fun w' hS => by exact exec_load_midP 51 (.tmp 128) rfl g1 (j * 8) rfl (enc x).toList _ hS.1 Tryz.underlying51 rfl (by rw [infoEntry]; rfl)); simp only [lxa, lxb, lxc]
                refine lx_r 4 (.slice (some ⟨g0, 0, none⟩) l0 c0) HS0 ?_; simp only [lxa, lxb, lxc]
                refine lx_r 5 (.int .i64 j) HS0 ?_; simp only [lxa, lxb, lxc]
                refine lx_r 6 (.pointer (some ⟨g0, j * 8, none⟩)) HS0 ?_; simp only [lxa, lxb, lxc]
                refine lx_r 7 (env y) HS0 ?_ (hv := fun w' hS => by exact exec_load_midP 51 (.tmp 132) rfl g0 (j * 8) rfl (enc y).toList _ hS.2 Tryz.underlying51 rfl (by rw [infoEntry]; rfl)); simp only [lxa, lxb, lxc]
                have hc1 : GRd wr.drew (gad x.g) x.g.2.1 x.g.2.2 (G5 x.c) := by
                  obtain ⟨_, _, _, h1, _⟩ := N6.out.2 x ((sortE_perm es1).mem_iff.1 (List.mem_of_getElem? HXY.out.1))
                  exact (h1.below HBz.out).below (Below.refl _ _).drew
                have hc0 : GRd wr.drew (gad y.g) y.g.2.1 y.g.2.2 (G y.c) := by
                  obtain ⟨_, _, _, h1, _⟩ := O6.out.2 y ((sortE_perm es0).mem_iff.1 (List.mem_of_getElem? HXY.out.2))
                  exact (h1.below HBz.out).below (Below.refl _ _).drew
                have cS := sameE_any x y (G5 x.c) (G y.c) wr.drew hc1 hc0
                obtain ⟨bs, Hbs⟩ : ∃ bs, Hid (sameE x y (G5 x.c) (G y.c) = bs) := ⟨_, rfl⟩
                rw [Hbs.out] at cS
                clear hc1 hc0
                refine lx_one 8 (by kernel_rfl) (stepT_call 24 ?sc rfl rfl rfl ?sd ?_)
                case sd => first | (go_simp; rfl) | go_simp
                refine cS.mono ?_
                rintro e w7 ⟨rfl, hb7⟩
                have HS7 : w7.rangeAt g1 (j * 8) (enc x).toList ∧ w7.rangeAt g0 (j * 8) (enc y).toList := ⟨range_below HS0.1 hb7, range_below HS0.2 hb7⟩
                refine ⟨_, rfl, fun _ => HS7, ?_⟩
                simp only [lxa, lxb, lxc]
                refine lx_one 9 (by kernel_rfl) (stepT_val (w' := w7) (.bool bs) rfl rfl rfl ?sv (fun _ => HS7) ?_)
                case sv => first | (go_simp; rfl) | (go_simp; done)
                simp only [lxa, lxb, lxc]
                refine lx_nil (by kernel_rfl) ?_
                have B7 : Hid (Below w6.heap.size w6 w7) := HBz.out.drew.trans (hb7.mono HBz.out.size)
                have T1 : Hid (bs = true → l1 = l0 ∧ ∀ (i : Nat) (x y : En), i < j + 1 → (sortE es1)[i]? = some x → (sortE es0)[i]? = some y → sameE x y (G5 x.c) (G y.c) = true) := fun e => ⟨hll.out, fun i x' y' hi hx' hy' => by
                  by_cases h1 : i = j
                  · subst h1
                    rw [HXY.out.1] at hx'
                    rw [HXY.out.2] at hy'
                    injection hx' with hx'
                    injection hy' with hy'
                    subst hx' hy'
                    rw [Hbs.out]; exact e
                  · exact (HT1.out rfl).2 i x' y' (by omega) hx' hy'⟩
                have T2 : Hid (bs = false → allSame G5 G (sortE es1) (sortE es0) = false) := fun e => by
                  refine Bool.eq_false_iff.2 fun h => ?_
                  have h2 := (allSame_iff.1 h).2 j x y HXY.out.1 HXY.out.2
                  rw [Hbs.out, e] at h2
                  cases h2
                clear HS0 HS7 hb7 HT1 HT2
                go_wp2
                exact ⟨⟨j + 1, bs, rfl, by go_num, by omega, T1, T2, B7⟩, by simp [intOf]; omega⟩
              | false =>
                have HAS : Hid (allSame G5 G (sortE es1) (sortE es0) = false) := HT2.out rfl
                have hz := HBz.out.size
                have Sz : Hid (Sbt wr q mb it ak (k + 1) R5 G5) := S6.out.below HBz.out
                have Bz : Hid (Below w.heap.size w wr) := B6.out.trans (HBz.out.mono B6.out.size)
                have cB := sb_book Sz.out
                have hfew := Sz.out.few
                have hlen := Sz.out.rb.len
                have hbi := Sz.out.rb.it
                have hba := Sz.out.rb.ak
                have hib := Sz.out.ib
                have hl1 := L1.out.2
                have t1 : decide ((l1 : Int) > it) = false := by simp; omega
                have t2 : decide ((R5.ks.length : Int) - (l1 : Int) > ak) = false := by simp; omega
                have t3 : IntKind.wrap .i64 ((R5.ks.length : Int) - (l1 : Int)) = (R5.ks.length : Int) - (l1 : Int) := wi64' (by omega) (by omega) rfl
                have hver := HRV.out
                obtain ⟨N5, HN5⟩ : ∃ N5, Hid (R5.ks.length = N5) := ⟨_, rfl⟩
                rw [HN5.out] at t2 t3
                have t4 : IntKind.wrap .u64 (R.ver + 1) = R.ver + 1 := by simp [IntKind.wrap, IntKind.bits, IntKind.signed]; omega
                cases bd with
                | true =>
                  have v1 : R5.ver = R.ver + 1 := by
                    rcases M5.out with ⟨_, h⟩ | ⟨h, _⟩
                    · exact h
                    · cases h
                  have t5 : decide (R.ver + 1 > R.ver + 1) = false := by simp
                  have t6 : (R.ver + 1 != R.ver) = true := by simp; omega
                  clear hfew hlen hbi hba hib hl1 hver hz
                  have HV1 : Hid (R5.ver = _) := v1
                  clear v1
                  go_wp2_with (first
                    | (go_at_call 15; refine cB.mono ?_; clear cB; rintro e w8 ⟨a8, n8, c8, rfl, hn8, hb8⟩; rw [HN5.out] at hn8; subst hn8; unfold bkc; have hfd : ∀ w, (Instr.field 40 (.agg #[.int .i64 R5.it, .int .i64 R5.ak, .int .u64 R5.ver, .int .u64 R5.nx, .slice a8 n8 c8]) 4).run Tryz.prog w = .ok (.slice a8 n8 c8) w := (fun w => by first | rfl | simp [Instr.field, go_sem, asAgg]); have S8 := Sz.out.below hb8; have cV8 := ver_any w8 q mb R5 S8.ra; rw [HV1.out] at cV8; have B8 := Bz.out.trans (hb8.mono Bz.out.size))
                    | (go_at_call 16; refine cV8.mono ?_; rintro e w9 ⟨rfl, hw9⟩; replace hw9 := hw9.symm; subst hw9))
                  go_roundw
                  case rel => exact ⟨k + 1, R5, G5, by go_num, by omega, by omega, S8, B8⟩
                  case measure => simp [intOf]; omega
                | false =>
                  rcases M5.out with ⟨h, _⟩ | ⟨_, ⟨v1, v2, v3⟩ | ⟨v1, v2⟩⟩
                  · cases h
                  · exact absurd ((lists_same L1.out.1 L0.out.1).2 v2) (by rw [HAS.out]; decide)
                  · clear v2
                    have t5 : decide (R.ver + 1 > R.ver + 1) = false := by simp
                    have t6 : (R.ver + 1 != R.ver) = true := by simp; omega
                    clear hfew hlen hbi hba hib hl1 hver hz
                    have HV1 : Hid (R5.ver = _) := v1
                    clear v1
                    go_wp2_with (first
                      | (go_at_call 15; refine cB.mono ?_; clear cB; rintro e w8 ⟨a8, n8, c8, rfl, hn8, hb8⟩; rw [HN5.out] at hn8; subst hn8; unfold bkc; have hfd : ∀ w, (Instr.field 40 (.agg #[.int .i64 R5.it, .int .i64 R5.ak, .int .u64 R5.ver, .int .u64 R5.nx, .slice a8 n8 c8]) 4).run Tryz.prog w = .ok (.slice a8 n8 c8) w := (fun w => by first | rfl | simp [Instr.field, go_sem, asAgg]); have S8 := Sz.out.below hb8; have cV8 := ver_any w8 q mb R5 S8.ra; rw [HV1.out] at cV8; have B8 := Bz.out.trans (hb8.mono Bz.out.size))
                      | (go_at_call 16; refine cV8.mono ?_; rintro e w9 ⟨rfl, hw9⟩; replace hw9 := hw9.symm; subst hw9))
                    go_roundw
                    case rel => exact ⟨k + 1, R5, G5, by go_num, by omega, by omega, S8, B8⟩
                    case measure => simp [intOf]; omega
            · have hcl3 : ¬ (j : Int) < (l1 : Int) := by omega
              cases bb with
              | false =>
                have HAS : Hid (allSame G5 G (sortE es1) (sortE es0) = false) := HT2.out rfl
                have hz := HBz.out.size
                have Sz : Hid (Sbt wr q mb it ak (k + 1) R5 G5) := S6.out.below HBz.out
                have Bz : Hid (Below w.heap.size w wr) := B6.out.trans (HBz.out.mono B6.out.size)
                have cB := sb_book Sz.out
                have hfew := Sz.out.few
                have hlen := Sz.out.rb.len
                have hbi := Sz.out.rb.it
                have hba := Sz.out.rb.ak
                have hib := Sz.out.ib
                have hl1 := L1.out.2
                have t1 : decide ((l1 : Int) > it) = false := by simp; omega
                have t2 : decide ((R5.ks.length : Int) - (l1 : Int) > ak) = false := by simp; omega
                have t3 : IntKind.wrap .i64 ((R5.ks.length : Int) - (l1 : Int)) = (R5.ks.length : Int) - (l1 : Int) := wi64' (by omega) (by omega) rfl
                have hver := HRV.out
                obtain ⟨N5, HN5⟩ : ∃ N5, Hid (R5.ks.length = N5) := ⟨_, rfl⟩
                rw [HN5.out] at t2 t3
                have t4 : IntKind.wrap .u64 (R.ver + 1) = R.ver + 1 := by simp [IntKind.wrap, IntKind.bits, IntKind.signed]; omega
                cases bd with
                | true =>
                  have v1 : R5.ver = R.ver + 1 := by
                    rcases M5.out with ⟨_, h⟩ | ⟨h, _⟩
                    · exact h
                    · cases h
                  have t5 : decide (R.ver + 1 > R.ver + 1) = false := by simp
                  have t6 : (R.ver + 1 != R.ver) = true := by simp; omega
                  clear hfew hlen hbi hba hib hl1 hver hz
                  have HV1 : Hid (R5.ver = _) := v1
                  clear v1
                  go_wp2_with (first
                    | (go_at_call 15; refine cB.mono ?_; clear cB; rintro e w8 ⟨a8, n8, c8, rfl, hn8, hb8⟩; rw [HN5.out] at hn8; subst hn8; unfold bkc; have hfd : ∀ w, (Instr.field 40 (.agg #[.int .i64 R5.it, .int .i64 R5.ak, .int .u64 R5.ver, .int .u64 R5.nx, .slice a8 n8 c8]) 4).run Tryz.prog w = .ok (.slice a8 n8 c8) w := (fun w => by first | rfl | simp [Instr.field, go_sem, asAgg]); have S8 := Sz.out.below hb8; have cV8 := ver_any w8 q mb R5 S8.ra; rw [HV1.out] at cV8; have B8 := Bz.out.trans (hb8.mono Bz.out.size))
                    | (go_at_call 16; refine cV8.mono ?_; rintro e w9 ⟨rfl, hw9⟩; replace hw9 := hw9.symm; subst hw9))
                  go_roundw
                  case rel => exact ⟨k + 1, R5, G5, by go_num, by omega, by omega, S8, B8⟩
                  case measure => simp [intOf]; omega
                | false =>
                  rcases M5.out with ⟨h, _⟩ | ⟨_, ⟨v1, v2, v3⟩ | ⟨v1, v2⟩⟩
                  · cases h
                  · exact absurd ((lists_same L1.out.1 L0.out.1).2 v2) (by rw [HAS.out]; decide)
                  · clear v2
                    have t5 : decide (R.ver + 1 > R.ver + 1) = false := by simp
                    have t6 : (R.ver + 1 != R.ver) = true := by simp; omega
                    clear hfew hlen hbi hba hib hl1 hver hz
                    have HV1 : Hid (R5.ver = _) := v1
                    clear v1
                    go_wp2_with (first
                      | (go_at_call 15; refine cB.mono ?_; clear cB; rintro e w8 ⟨a8, n8, c8, rfl, hn8, hb8⟩; rw [HN5.out] at hn8; subst hn8; unfold bkc; have hfd : ∀ w, (Instr.field 40 (.agg #[.int .i64 R5.it, .int .i64 R5.ak, .int .u64 R5.ver, .int .u64 R5.nx, .slice a8 n8 c8]) 4).run Tryz.prog w = .ok (.slice a8 n8 c8) w := (fun w => by first | rfl | simp [Instr.field, go_sem, asAgg]); have S8 := Sz.out.below hb8; have cV8 := ver_any w8 q mb R5 S8.ra; rw [HV1.out] at cV8; have B8 := Bz.out.trans (hb8.mono Bz.out.size))
                      | (go_at_call 16; refine cV8.mono ?_; rintro e w9 ⟨rfl, hw9⟩; replace hw9 := hw9.symm; subst hw9))
                    go_roundw
                    case rel => exact ⟨k + 1, R5, G5, by go_num, by omega, by omega, S8, B8⟩
                    case measure => simp [intOf]; omega
              | true =>
                have HAS : Hid (allSame G5 G (sortE es1) (sortE es0) = true) := allSame_iff.2 ⟨by rw [(sortE_perm es1).length_eq, (sortE_perm es0).length_eq, Hl1.out, Hl0.out]; exact (HT1.out rfl).1, fun i x y hx hy => (HT1.out rfl).2 i x y (by have := (List.getElem?_eq_some_iff.1 hx).1; rw [(sortE_perm es1).length_eq, Hl1.out] at this; omega) hx hy⟩
                have hz := HBz.out.size
                have Sz : Hid (Sbt wr q mb it ak (k + 1) R5 G5) := S6.out.below HBz.out
                have Bz : Hid (Below w.heap.size w wr) := B6.out.trans (HBz.out.mono B6.out.size)
                have cB := sb_book Sz.out
                have hfew := Sz.out.few
                have hlen := Sz.out.rb.len
                have hbi := Sz.out.rb.it
                have hba := Sz.out.rb.ak
                have hib := Sz.out.ib
                have hl1 := L1.out.2
                have t1 : decide ((l1 : Int) > it) = false := by simp; omega
                have t2 : decide ((R5.ks.length : Int) - (l1 : Int) > ak) = false := by simp; omega
                have t3 : IntKind.wrap .i64 ((R5.ks.length : Int) - (l1 : Int)) = (R5.ks.length : Int) - (l1 : Int) := wi64' (by omega) (by omega) rfl
                have hver := HRV.out
                obtain ⟨N5, HN5⟩ : ∃ N5, Hid (R5.ks.length = N5) := ⟨_, rfl⟩
                rw [HN5.out] at t2 t3
                have t4 : IntKind.wrap .u64 (R.ver + 1) = R.ver + 1 := by simp [IntKind.wrap, IntKind.bits, IntKind.signed]; omega
                cases bd with
                | true =>
                  have v1 : R5.ver = R.ver + 1 := by
                    rcases M5.out with ⟨_, h⟩ | ⟨h, _⟩
                    · exact h
                    · cases h
                  have t5 : decide (R.ver + 1 > R.ver + 1) = false := by simp
                  have t6 : (R.ver + 1 != R.ver) = true := by simp; omega
                  clear hfew hlen hbi hba hib hl1 hver hz
                  have HV1 : Hid (R5.ver = _) := v1
                  clear v1
                  go_wp2_with (first
                    | (go_at_call 15; refine cB.mono ?_; clear cB; rintro e w8 ⟨a8, n8, c8, rfl, hn8, hb8⟩; rw [HN5.out] at hn8; subst hn8; unfold bkc; have hfd : ∀ w, (Instr.field 40 (.agg #[.int .i64 R5.it, .int .i64 R5.ak, .int .u64 R5.ver, .int .u64 R5.nx, .slice a8 n8 c8]) 4).run Tryz.prog w = .ok (.slice a8 n8 c8) w := (fun w => by first | rfl | simp [Instr.field, go_sem, asAgg]); have S8 := Sz.out.below hb8; have cV8 := ver_any w8 q mb R5 S8.ra; rw [HV1.out] at cV8; have B8 := Bz.out.trans (hb8.mono Bz.out.size))
                    | (go_at_call 16; refine cV8.mono ?_; rintro e w9 ⟨rfl, hw9⟩; replace hw9 := hw9.symm; subst hw9))
                  go_roundw
                  case rel => exact ⟨k + 1, R5, G5, by go_num, by omega, by omega, S8, B8⟩
                  case measure => simp [intOf]; omega
                | false =>
                  rcases M5.out with ⟨h, _⟩ | ⟨_, ⟨v1, v2, v3⟩ | ⟨v1, v2⟩⟩
                  · cases h
                  · clear v2
                    have t5 : decide (R.ver > R.ver + 1) = false := by simp; omega
                    clear hfew hlen hbi hba hib hl1 hver hz
                    have HV1 : Hid (R5.ver = _) := v1
                    clear v1
                    go_wp2_with (first
                      | (go_at_call 15; refine cB.mono ?_; clear cB; rintro e w8 ⟨a8, n8, c8, rfl, hn8, hb8⟩; rw [HN5.out] at hn8; subst hn8; unfold bkc; have hfd : ∀ w, (Instr.field 40 (.agg #[.int .i64 R5.it, .int .i64 R5.ak, .int .u64 R5.ver, .int .u64 R5.nx, .slice a8 n8 c8]) 4).run Tryz.prog w = .ok (.slice a8 n8 c8) w := (fun w => by first | rfl | simp [Instr.field, go_sem, asAgg]); have S8 := Sz.out.below hb8; have cV8 := ver_any w8 q mb R5 S8.ra; rw [HV1.out] at cV8; have B8 := Bz.out.trans (hb8.mono Bz.out.size))
                      | (go_at_call 16; refine cV8.mono ?_; rintro e w9 ⟨rfl, hw9⟩; replace hw9 := hw9.symm; subst hw9))
                    go_roundw
                    case rel => exact ⟨k + 1, R5, G5, by go_num, by omega, by omega, S8, B8⟩
                    case measure => simp [intOf]; omega
                  · exact absurd ((lists_same L1.out.1 L0.out.1).1 HAS.out) (v2.resolve_right (by decide))
      · have hcl2 : ¬ (k : Int) < 150 := by omega
        have HF : Hid (Below w.heap.size w wr) := HS.out.2
        clear HS
        go_wp2
        go_ret
        exact ⟨rfl, HF.out⟩
    · have hcl : ¬ (k : Int) < (n : Int) := by omega
      have HF : Hid (Below w.heap.size w wr) := HS.out.2
      clear HS
      go_wp2
      go_ret
      exact ⟨rfl, HF.out⟩
end Go.Proofs.YtppdopcghnfapaaGreatDoor
