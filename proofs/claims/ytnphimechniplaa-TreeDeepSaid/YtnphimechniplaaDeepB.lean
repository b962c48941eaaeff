/- TreeDeep's walk. -/
import Derived.Test.YtnphimechniplaaDeepA
import Derived.Test.YtnphimechniplaaTold3
set_option linter.unusedSimpArgs false
set_option linter.unusedVariables false
namespace Go.Proofs.Ytnphimechniplaa
open Go.RowKit
/-- Blocks in a While: what holds at the loop's head. -/
structure DB (w wr : World) (nd : Nd) (j : Nat) : Prop where
  bel : Below w.heap.size w wr
  e : Bx wr w.heap.size #[.int .i64 2, .int .i32 1, .string ⟨#[]⟩, .string ⟨#[]⟩, .string ⟨#[]⟩, .slice none 0 0, .string ⟨#[]⟩, .int .i64 0] 24
  s : Bx wr (w.heap.size + 2) (cellsN nd).toArray 51
  kd : KdX (w.heap.size + 2) wr nd
  tag : nd.tag = .st
  k11 : nd.kind ≠ 11
  deep : Deep nd j
  size : nd.size ≤ 2 * j
theorem bx_other {w w' : World} {b R : Nat} {cs : Array Value} {T : TypeId} (h : Bx w b cs T) (hb : w'.heap[b]? = w.heap[b]?) : Bx w' b cs T := hb.trans h
theorem kdx_true (R : Nat) (w : World) : KdX R w dTrue := fun ws _ => by
  unfold dTrue; rw [Kd]; exact ⟨⟨sz_le (by decide), sz_le (by decide), sz_le (by decide)⟩, Rw.empty _ _ _ _, trivial⟩
theorem rw_bx' {W : World} {b : Nat} {cs : Array Value} {T : TypeId} {t : Tg} {x : Nd} (h : Bx W b cs T) (hc : cs.toList = cellsN x) (ht : x.tag = t) : Rw W t (.slice (some ⟨b, 0, none⟩) 1 1) [x] :=
  rw_bx h (by simpa using hc) (by intro y hy; simp at hy; subst hy; exact ht) rfl (by omega)
theorem rw_kept {R : Nat} {w ws : World} {t : Tg} {v : Value} {l : List Nd} (h : Rw w t v l) (hR : ∀ k, v.ownBlock = some k → k ≠ R) (hk : ∀ k j u, k ≠ R → w.cell? ⟨k, j, none⟩ = some u → ws.cell? ⟨k, j, none⟩ = some u) : Rw ws t v l := by
  obtain ⟨A, cap, rfl, hm, ht, hc⟩ := h
  refine ⟨A, cap, rfl, hm, ht, fun h0 => ?_⟩
  obtain ⟨b, o, rfl, hcell⟩ := hc h0
  exact ⟨b, o, rfl, fun i x hx j u hu => hk b _ u (hR b rfl) (hcell i x hx j u hu)⟩
theorem z4 : (⟨#[118, 111, 105, 100]⟩ : ByteArray).size ≤ maxLen := sz_le (by decide)
theorem z1 : (⟨#[102]⟩ : ByteArray).size ≤ maxLen := sz_le (by decide)
theorem z1a : (⟨#[65]⟩ : ByteArray).size ≤ maxLen := sz_le (by decide)
theorem z0 : (⟨#[]⟩ : ByteArray).size ≤ maxLen := sz_le (by decide)
theorem size_setCells (b : Nat) : ∀ (us : List Value) (o : Nat) (w : World), (w.setCells b o us).heap.size = w.heap.size
  | [], _, _ => rfl
  | u :: us, o, w => by rw [World.setCells, size_setCells b us]; simp
theorem DB.step {w wr : World} {nd : Nd} {j : Nat} (h : DB w wr nd j) (hj : j ≤ 45) (us : List Value) (hu : us = cellsN (dWhile wr.heap.size (wr.heap.size + 1) dTrue nd)) :
    DB w (((wr.setCells (w.heap.size + 2) 0 us).alloc (.cells #[.int .i64 2, .int .i32 1, .string ⟨#[]⟩, .string ⟨#[]⟩, .string ⟨#[]⟩, .slice none 0 0, .string ⟨#[]⟩, .int .i64 0] 24)).alloc (.cells (cellsN nd).toArray 51)) (dWhile wr.heap.size (wr.heap.size + 1) dTrue nd) (j + 1) := by
  have hl := h.s.lt
  have hg := grown_setCells (w.heap.size + 2) us 0 wr
  have hz := size_setCells (w.heap.size + 2) us 0 wr
  have hs1 : Bx (wr.setCells (w.heap.size + 2) 0 us) (w.heap.size + 2) (cellsN (dWhile wr.heap.size (wr.heap.size + 1) dTrue nd)).toArray 51 := by
    subst hu
    have ht := h.tag
    have hs := h.s
    clear hg hz h
    cases nd <;> first | (simp [Nd.tag] at ht; done) | skip
    exact Bx.set_9 (by simpa [cellsN] using hs) (.int .i64 5) (.int .i32 0) (.string ⟨#[]⟩) (.string ⟨#[]⟩) (.slice (some ⟨wr.heap.size, 0, none⟩) 1 1) (.slice (some ⟨wr.heap.size + 1, 0, none⟩) 1 1) (.slice none 0 0) (.slice none 0 0) (.int .i64 0)
  have hkk : ∀ k j u, k ≠ w.heap.size + 2 → wr.cell? ⟨k, j, none⟩ = some u → (wr.setCells (w.heap.size + 2) 0 us).cell? ⟨k, j, none⟩ = some u := by
    intro k j u hk hu
    rw [World.cell?_setCells_out _ _ _ _ _ (fun e _ => absurd e hk)]; exact hu
  have he : Bx (wr.setCells (w.heap.size + 2) 0 us) w.heap.size #[.int .i64 2, .int .i32 1, .string ⟨#[]⟩, .string ⟨#[]⟩, .string ⟨#[]⟩, .slice none 0 0, .string ⟨#[]⟩, .int .i64 0] 24 := (hg.block _ (by omega) (by simp)).trans h.e
  clear hu
  generalize wr.setCells (w.heap.size + 2) 0 us = W1 at hg hz hs1 hkk he ⊢
  have b1 : Bx ((W1.alloc (.cells #[.int .i64 2, .int .i32 1, .string ⟨#[]⟩, .string ⟨#[]⟩, .string ⟨#[]⟩, .slice none 0 0, .string ⟨#[]⟩, .int .i64 0] 24)).alloc (.cells (cellsN nd).toArray 51)) wr.heap.size #[.int .i64 2, .int .i32 1, .string ⟨#[]⟩, .string ⟨#[]⟩, .string ⟨#[]⟩, .slice none 0 0, .string ⟨#[]⟩, .int .i64 0] 24 := (Bx.at_new hz.symm).up _
  have b2 : Bx ((W1.alloc (.cells #[.int .i64 2, .int .i32 1, .string ⟨#[]⟩, .string ⟨#[]⟩, .string ⟨#[]⟩, .slice none 0 0, .string ⟨#[]⟩, .int .i64 0] 24)).alloc (.cells (cellsN nd).toArray 51)) (wr.heap.size + 1) (cellsN nd).toArray 51 := Bx.at_new (by simp [hz])
  have hb : Below W1.heap.size W1 ((W1.alloc (.cells #[.int .i64 2, .int .i32 1, .string ⟨#[]⟩, .string ⟨#[]⟩, .string ⟨#[]⟩, .slice none 0 0, .string ⟨#[]⟩, .int .i64 0] 24)).alloc (.cells (cellsN nd).toArray 51)) := ((Below.refl _ W1).alloc (Nat.le_refl _) _).alloc (by simp) _
  have hbw : Below w.heap.size w W1 := h.bel.grown hg h.bel.size (by rintro k ⟨rfl⟩; omega)
  refine ⟨hbw.trans (hb.mono hbw.size), he.next hb, hs1.next hb, ?_, rfl, by simp [dWhile, Nd.kind], deep_while h.deep h.tag h.k11, by have := h.size; simp [dWhile, dTrue, Nd.size, sizeL]; omega⟩
  intro ws hs
  have r1 := rw_kept (R := w.heap.size + 2) (rw_bx' (x := dTrue) b1 rfl rfl) (by intro k hk; simp [Value.ownBlock] at hk; omega) hs
  have r2 := rw_kept (R := w.heap.size + 2) (rw_bx' (x := nd) b2 (by simp) h.tag) (by intro k hk; simp [Value.ownBlock] at hk; omega) hs
  have hkn := (h.kd.keep hkk) ws fun k j u hk hu => hs k j u hk ((hb.cell (p := ⟨k, j, none⟩) (World.block_lt_of_cell? W1 (a := ⟨k, j, none⟩) hu)).trans hu)
  unfold dWhile; rw [Kd]
  exact ⟨⟨z0, z0⟩, ⟨r1, kdx_true 0 ws ws (fun _ _ _ _ h => h), trivial⟩, ⟨r2, hkn, trivial⟩, ⟨Rw.empty _ _ _ _, trivial⟩, Rw.empty _ _ _ _, trivial⟩
theorem deep_size (b c : Nat) (s : Nd) : sizeL [dCls c (dMeth b s)] = s.size + 2 := by simp [sizeL, dCls, dMeth, Nd.size]; omega
/-- The program round the statement. -/
theorem deep_prog {wr W : World} {nd : Nd} {T1 T2 T3 : TypeId} (hk : Kd wr nd) (ht : nd.tag = .st) (hW : ((wr.alloc (.cells (cellsN nd).toArray T1)).alloc (.cells (cellsN (dMeth wr.heap.size nd)).toArray T2)).alloc (.cells (cellsN (dCls (wr.heap.size + 1) (dMeth wr.heap.size nd))).toArray T3) = W) {W' : World} (hb : Below W.heap.size W W') :
    Rw W' .cl (.slice (some ⟨wr.heap.size + 2, 0, none⟩) 1 1) [dCls (wr.heap.size + 1) (dMeth wr.heap.size nd)] ∧ KdL W' [dCls (wr.heap.size + 1) (dMeth wr.heap.size nd)] := by
  have b1 : Bx W wr.heap.size (cellsN nd).toArray T1 := by rw [← hW]; exact ((Bx.at_new rfl).up _).up _
  have b2 : Bx W (wr.heap.size + 1) (cellsN (dMeth wr.heap.size nd)).toArray T2 := by rw [← hW]; exact (Bx.at_new (by simp)).up _
  have b3 : Bx W (wr.heap.size + 2) (cellsN (dCls (wr.heap.size + 1) (dMeth wr.heap.size nd))).toArray T3 := by rw [← hW]; exact Bx.at_new (by simp)
  have hbw : Below wr.heap.size wr W := by rw [← hW]; exact (((Below.refl _ wr).alloc (Nat.le_refl _) _).alloc (by simp) _).alloc (by simp <;> omega) _
  have K := Keep.below (hbw.trans (hb.mono hbw.size))
  have h1 : Kd W' nd := Kd.keep K _ hk
  have h2 : Kd W' (dMeth wr.heap.size nd) := by
    unfold dMeth; rw [Kd]
    exact ⟨⟨z4, z1⟩, ⟨none, 0, rfl, by unfold maxLen; simp, by simp, fun h => by simp at h⟩, rw_bx' (b1.next hb) (by simp) ht, h1, trivial⟩
  refine ⟨rw_bx' (b3.next hb) (by simp) rfl, ?_, trivial⟩
  unfold dCls; rw [Kd]
  exact ⟨⟨z1a, z0⟩, ⟨Rw.empty _ _ _ _, trivial⟩, rw_bx' (b2.next hb) (by simp) rfl, h2, trivial⟩
set_option maxRecDepth 100000 in
set_option maxHeartbeats 4000000 in
theorem deep_blocks (w : World) (n : Int) : Calls Try.prog 5 #[.int .i64 n, .bool true] w fun e w' => e = .returned (.bool true) ∧ Below w.heap.size w w' := by
  obtain ⟨x, i, a1, a2, a3, a4, a5, a6⟩ := which n 5 (by omega) (by omega)
  have e1 : x.tmod 5 = (i : Int) := by simpa using a2
  have hi0 : (0 : Int) ≤ (i : Int) := by omega
  have hi4 : (i : Int) ≤ 4 := by omega
  clear a2 a4 a5 a6
  go_enter Try.func5, Try.ntmps5
  go_wp2_with fail
  clear a1 e1
  refine gen_world (fun W => DB w W (dPrint (w.heap.size + 1) dTrue) 1) ?_ ?_
  · have b0 : Bx (((w.alloc (.cells #[.int .i64 2, .int .i32 1, .string ⟨#[]⟩, .string ⟨#[]⟩, .string ⟨#[]⟩, .slice none 0 0, .string ⟨#[]⟩, .int .i64 0] 24)).alloc (.cells #[.int .i64 2, .int .i32 1, .string ⟨#[]⟩, .string ⟨#[]⟩, .string ⟨#[]⟩, .slice none 0 0, .string ⟨#[]⟩, .int .i64 0] 24)).alloc (.cells (cellsN (dPrint (w.heap.size + 1) dTrue)).toArray 51)) w.heap.size #[.int .i64 2, .int .i32 1, .string ⟨#[]⟩, .string ⟨#[]⟩, .string ⟨#[]⟩, .slice none 0 0, .string ⟨#[]⟩, .int .i64 0] 24 := ((Bx.at_new rfl).up _).up _
    have b1 : Bx (((w.alloc (.cells #[.int .i64 2, .int .i32 1, .string ⟨#[]⟩, .string ⟨#[]⟩, .string ⟨#[]⟩, .slice none 0 0, .string ⟨#[]⟩, .int .i64 0] 24)).alloc (.cells #[.int .i64 2, .int .i32 1, .string ⟨#[]⟩, .string ⟨#[]⟩, .string ⟨#[]⟩, .slice none 0 0, .string ⟨#[]⟩, .int .i64 0] 24)).alloc (.cells (cellsN (dPrint (w.heap.size + 1) dTrue)).toArray 51)) (w.heap.size + 1) #[.int .i64 2, .int .i32 1, .string ⟨#[]⟩, .string ⟨#[]⟩, .string ⟨#[]⟩, .slice none 0 0, .string ⟨#[]⟩, .int .i64 0] 24 := (Bx.at_new (by simp)).up _
    refine ⟨((((Below.refl _ w).alloc (Nat.le_refl _) _).alloc (by simp) _).alloc (by simp <;> omega) _), b0, Bx.at_new (by simp), fun ws hs => ?_, rfl, by simp [dPrint, Nd.kind], deep_print deep_true rfl (by omega), by simp [dPrint, dTrue, Nd.size, sizeL]⟩
    have r1 := rw_kept (R := w.heap.size + 2) (rw_bx' (x := dTrue) b1 rfl rfl) (by intro k hk; simp [Value.ownBlock] at hk; omega) hs
    unfold dPrint; rw [Kd]
    exact ⟨⟨sz_le (by decide), sz_le (by decide)⟩, ⟨r1, kdx_true 0 ws ws (fun _ _ _ _ h => h), trivial⟩, ⟨Rw.empty _ _ _ _, trivial⟩, ⟨Rw.empty _ _ _ _, trivial⟩, Rw.empty _ _ _ _, trivial⟩
  · intro W hD
    have HD := Lib.hid hD
    clear hD
    simp only [Nat.add_assoc, Nat.reduceAdd]
    go_loopw [8] (fun v8 wr => ∃ (j : Nat) (nd : Nd), v8 = .int .i64 j ∧ 1 ≤ j ∧ j ≤ 38 + i ∧ DB w wr nd j) (fun v8 wr => 38 + i - (intOf v8).toNat)
    case atStart => exact ⟨1, _, rfl, Nat.le_refl _, by omega, HD.out⟩
    case round =>
      obtain ⟨j, nd, rfl, hj1, hj2, hE⟩ := hrel
      clear HD
      have HE := Lib.hid hE
      have htag := hE.tag
      clear hE
      cases nd <;> first | (simp [Nd.tag] at htag; done) | skip
      rename_i sk sn sty snm sve sva svb svc se sa sb sc snth
      clear htag
      obtain ⟨z0, z1, z2, z3, z4, z5, z6, z7, z8⟩ := Bx.get_9 (show Bx wr (w.heap.size + 2) #[.int .i64 sk, .int .i32 sn, .string sty, .string snm, sve, sva, svb, svc, .int .i64 snth] 51 by simpa [cellsN] using HE.out.s)
      have f0 := HE.out.s.fro 0; have f1 := HE.out.s.fro 1; have f2 := HE.out.s.fro 2; have f3 := HE.out.s.fro 3; have f4 := HE.out.s.fro 4; have f5 := HE.out.s.fro 5; have f6 := HE.out.s.fro 6; have f7 := HE.out.s.fro 7; have f8 := HE.out.s.fro 8
      obtain ⟨y0, y1, y2, y3, y4, y5, y6, y7⟩ := HE.out.e.get_8
      have hsl := HE.out.s.lt
      have hr1 : wr.heap.size ≠ w.heap.size + 2 := by omega
      have hr2 : wr.heap.size + 1 ≠ w.heap.size + 2 := by omega
      have hkd := HE.out.kd.kd; rw [Kd] at hkd
      obtain ⟨Ae, ce, rfl⟩ := hkd.2.1.1.form
      obtain ⟨Aa, ca, rfl⟩ := hkd.2.2.1.1.form
      obtain ⟨Ab, cb, rfl⟩ := hkd.2.2.2.1.1.form
      obtain ⟨Ac, cc, rfl⟩ := hkd.2.2.2.2.1.form
      clear hkd
      by_cases hlt : j < 38 + i
      · have hlt' : (j : Int) < 38 + (i : Int) := by omega
        have HN := Lib.hid (HE.out.step (by omega) _ rfl)
        go_wp2_with fail
        go_roundw
        case rel =>
          have hN := HN.out
          clear HN HE z0 z1 z2 z3 z4 z5 z6 z7 z8 f0 f1 f2 f3 f4 f5 f6 f7 f8 y0 y1 y2 y3 y4 y5 y6 y7
          exact ⟨j + 1, dWhile wr.heap.size (wr.heap.size + 1) dTrue (.st sk sn sty snm (.slice Ae se.length ce) (.slice Aa sa.length ca) (.slice Ab sb.length cb) (.slice Ac sc.length cc) se sa sb sc snth), by go_num, by omega, by omega, hN⟩
        case measure => simp [intOf]; omega
      · have hlt' : 38 + (i : Int) ≤ j := by omega
        have hji : j = 38 + i := by omega
        have HT : Hid (∀ w', Calls Try.prog 9 #[] w' fun e w'' => e = .returned (.bool true) ∧ Below w'.heap.size w' w'') := told_any
        have HM : Hid (∀ w', Below (((wr.alloc (.cells (cellsN (.st sk sn sty snm (.slice Ae se.length ce) (.slice Aa sa.length ca) (.slice Ab sb.length cb) (.slice Ac sc.length cc) se sa sb sc snth)).toArray 51)).alloc (.cells (cellsN (dMeth wr.heap.size (.st sk sn sty snm (.slice Ae se.length ce) (.slice Aa sa.length ca) (.slice Ab sb.length cb) (.slice Ac sc.length cc) se sa sb sc snth))).toArray 48)).alloc (.cells (cellsN (dCls (wr.heap.size + 1) (dMeth wr.heap.size (.st sk sn sty snm (.slice Ae se.length ce) (.slice Aa sa.length ca) (.slice Ab sb.length cb) (.slice Ac sc.length cc) se sa sb sc snth)))).toArray 44)).heap.size (((wr.alloc (.cells (cellsN (.st sk sn sty snm (.slice Ae se.length ce) (.slice Aa sa.length ca) (.slice Ab sb.length cb) (.slice Ac sc.length cc) se sa sb sc snth)).toArray 51)).alloc (.cells (cellsN (dMeth wr.heap.size (.st sk sn sty snm (.slice Ae se.length ce) (.slice Aa sa.length ca) (.slice Ab sb.length cb) (.slice Ac sc.length cc) se sa sb sc snth))).toArray 48)).alloc (.cells (cellsN (dCls (wr.heap.size + 1) (dMeth wr.heap.size (.st sk sn sty snm (.slice Ae se.length ce) (.slice Aa sa.length ca) (.slice Ab sb.length cb) (.slice Ac sc.length cc) se sa sb sc snth)))).toArray 44)) w' → Calls Try.prog 24 #[.agg #[.slice (some ⟨wr.heap.size + 2, 0, none⟩) 1 1]] w' fun e w'' => e = .returned (.bool (decide (j ≤ 40))) ∧ Below w'.heap.size w' w'') := by
          show ∀ w', _
          intro w' hb
          obtain ⟨p1, p2⟩ := deep_prog HE.out.kd.kd rfl rfl hb
          exact may_any w' _ _ p1 p2 (by rw [deep_size]; have := HE.out.size; omega) _ (deep_may HE.out.deep rfl HE.out.k11 (by have := HE.out.size; omega))
        have HB := Lib.hid HE.out.bel
        obtain ⟨q, hq⟩ : ∃ q, decide (j ≤ 40) = q := ⟨_, rfl⟩
        rw [hq] at HM
        have hq2 : decide (38 + (i : Int) ≤ 40) = q := by rw [← hq]; simp only [decide_eq_decide]; omega
        clear hq hji
        go_wp2_with fail
        refine (HT.out _).mono ?_
        clear HT
        rintro e w2 ⟨rfl, hb⟩
        have hbx := (Bx.new _ _ _).next hb
        have c9 : w2.cell? ⟨wr.heap.size + 1 + 1 + 1, 0, none⟩ = some (.slice (some ⟨wr.heap.size + 1 + 1, 0, none⟩) 1 1) := by
          have := hbx.cell 0
          simpa using this
        have HM2 := Lib.hid (HM.out w2 (below_box hb))
        have hbw := below_box (below_box (below_box (below_box hb)))
        have hfin := HB.out.trans (hbw.mono HB.out.size)
        have hs0 := HB.out.size
        clear HM hbx hb HE z0 z1 z2 z3 z4 z5 z6 z7 z8 f0 f1 f2 f3 f4 f5 f6 f7 f8 y0 y1 y2 y3 y4 y5 y6 y7
        go_wp2_with fail
        refine HM2.out.mono ?_
        clear HM2
        rintro e w3 ⟨rfl, hb3⟩
        have hfin3 := hfin.trans (hb3.mono hfin.size)
        go_wp2_with fail
        go_ret
        exact ⟨ret_bool (by cases q <;> rfl), hfin3⟩
end Go.Proofs.Ytnphimechniplaa
