/- Trees of classes: layer 6's Tree. -/
import Derived.Test.YtiibneldabfokaaKinT
import Derived.Deep.RegionLaw
import Derived.IntWalk
set_option linter.unusedSimpArgs false
set_option linter.unusedVariables false
namespace Go.Proofs.Ytiibneldabfokaa
open Go.RowKit
def namesT : List ByteArray := [⟨#[65]⟩, ⟨#[66]⟩, ⟨#[67]⟩, ⟨#[68]⟩, ⟨#[69]⟩, ⟨#[]⟩, kExc, kZer, ⟨#[90, 122]⟩]
def TreeOk (cs : List Hdr) : Prop := cs.length ≤ 6 ∧ ∀ h ∈ cs, (∃ i, i < 5 ∧ namesT[i]? = some h.1) ∧ (∃ i, i < 9 ∧ namesT[i]? = some h.2)
theorem TreeOk.nil : TreeOk [] := ⟨by simp, fun h hh => by simp at hh⟩
theorem TreeOk.snoc {cs : List Hdr} (h : TreeOk cs) (hl : cs.length < 6) {i j : Nat} (hi : i < 5) (hj : j < 9) {x y : ByteArray} (hx : namesT[i]? = some x) (hy : namesT[j]? = some y) : TreeOk (cs ++ [(x, y)]) := by
  refine ⟨by simp; omega, fun z hz => ?_⟩
  rcases List.mem_append.1 hz with hz | hz
  · exact h.2 z hz
  · rw [List.mem_singleton.1 hz]; exact ⟨⟨i, hi, hx⟩, ⟨j, hj, hy⟩⟩
/-- A row of whole numbers that came in. -/
def Is (w : World) (v : Value) : Prop := ∃ A n cap, v = .slice A n cap ∧ n ≤ cap ∧ n ≤ maxLen ∧ ∀ j, j < n → ∃ b o x, A = some ⟨b, o, none⟩ ∧ w.cell? ⟨b, o + j, none⟩ = some (.int .i64 x)
theorem whichK (a : Int) (m : Nat) (hm : 0 < m) (hm2 : m < 9223372036854775808) : ∃ (x : Int) (i : Nat), IntKind.u64.wrap a = x ∧ x.tmod m = (i : Int) ∧ i < m ∧ IntKind.u64.wrap (i : Int) = i ∧ IntKind.i64.wrap (i : Int) = i ∧ IntKind.u64.wrap (m : Int) = m := by
  have h0 : 0 ≤ IntKind.u64.wrap a := by rw [IntKind.wrap_u64]; omega
  refine ⟨IntKind.u64.wrap a, (IntKind.u64.wrap a).toNat % m, rfl, ?_, Nat.mod_lt _ hm, ?_, ?_, ?_⟩
  · rw [Int.tmod_eq_emod_of_nonneg h0, Int.natCast_emod, Int.toNat_of_nonneg h0]
  · have := Nat.mod_lt (IntKind.u64.wrap a).toNat hm; rw [IntKind.wrap_u64]; omega
  · have := Nat.mod_lt (IntKind.u64.wrap a).toNat hm; rw [IntKind.wrap_i64]; omega
  · rw [IntKind.wrap_u64]; omega
def TreeSaid (w : World) (e : Ending) (w' : World) : Prop := ∃ v cs, e = .returned (.agg #[v]) ∧ Cl w' v cs ∧ TreeOk cs ∧ Below w.heap.size w w'
theorem Try.infoCls : (Try.prog.info? 34).map (fun i => (i.zero, i.size, i.bytes)) = some (some (.agg #[.string ⟨#[]⟩, .string ⟨#[]⟩, .slice none 0 0, .slice none 0 0]), 4, 80) := by kernel_rfl
structure TrR (w : World) (v4 : Value) (cs : List Hdr) (wr : World) : Prop where
  bel : Below w.heap.size w wr
  rbox : Bx wr w.heap.size #[.slice none 0 0] 25
  nbox : Bx wr (w.heap.size + 1) (strsV namesT).toArray 9
  pbox : Bx wr (w.heap.size + 2) #[v4] 25
  own : wr.ownsRow (w.heap.size + 3) 34 4 v4 cs.length (hdrsV cs)
  ok : TreeOk cs
theorem hdrsV_snoc (cs : List Hdr) (h : Hdr) : hdrsV (cs ++ [h]) = hdrsV cs ++ hdrV h := by simp [hdrsV]
theorem TrR.more {w : World} {v4 v' : Value} {cs : List Hdr} {W w4 : World} {o : Obj} {x y : ByteArray} (h : TrR w v4 cs W) (hl : cs.length < 6) {i j : Nat} (hi : i < 5) (hj : j < 9) (hx : namesT[i]? = some x) (hy : namesT[j]? = some y)
    (hown : w4.ownsRow (w.heap.size + 3) 34 4 v' (cs.length + 1) (hdrsV cs ++ hdrV (x, y))) (hg : (W.alloc o).grownBy w4 v4.ownBlock) : TrR w v' (cs ++ [(x, y)]) (w4.setCell ⟨w.heap.size + 2, 0, none⟩ v') := by
  have hA : Below W.heap.size W (W.alloc o) := (Below.refl _ _).alloc (Nat.le_refl _) o
  have hlt := h.pbox.lt
  have hne : ∀ b, b < w.heap.size + 3 → some b ≠ v4.ownBlock := fun b hb e => by have := (h.own.lt _ e.symm).1; omega
  have hs := hg.size
  refine ⟨((h.bel.alloc h.bel.size o).grown hg (by simp; have := h.bel.size; omega) (fun k hk => by have := (h.own.lt k hk).1; omega)).setCell (by show w.heap.size ≤ w.heap.size + 2; omega) _, ?_, ?_, ?_, ?_, h.ok.snoc hl hi hj hx hy⟩
  · exact ((h.rbox.next hA).grownK hg (hne _ (by omega))).setK _ _ _ (by omega)
  · exact ((h.nbox.next hA).grownK hg (hne _ (by omega))).setK _ _ _ (by omega)
  · have := ((h.pbox.next hA).grownK hg (hne _ (by omega))).set 0 v'
    simpa using this
  · rw [hdrsV_snoc, List.length_append]
    exact hown.kept (grown_set_atK _ _ _ _) (.inr fun e => by have := (hown.lt _ e).1; omega)
theorem TrR.drew {w : World} {v4 : Value} {cs : List Hdr} {W : World} (h : TrR w v4 cs W) : TrR w v4 cs W.drew := ⟨h.bel.drew, h.rbox, h.nbox, h.pbox, h.own, h.ok⟩
theorem TrR.box6 {w : World} {v4 : Value} {cs : List Hdr} {W w4 : World} {o : Obj} (h : TrR w v4 cs W) (hg : (W.alloc o).grownBy w4 v4.ownBlock) : w4.cell? ⟨w.heap.size + 1 + 1, 0, none⟩ = some v4 ∧ w4.frozen? ⟨w.heap.size + 1 + 1, 0, none⟩ = false := by
  have hA : Below W.heap.size W (W.alloc o) := (Below.refl _ _).alloc (Nat.le_refl _) o
  have hb := (h.pbox.next hA).grownK hg (fun e => by have := (h.own.lt _ e.symm).1; omega)
  exact ⟨hb.cell 0, hb.fro 0⟩
theorem TrR.end_ {w : World} {A4 : Option Addr} {n c4 : Nat} {cs : List Hdr} {W : World} {u : Value} (h : TrR w (.slice A4 n c4) cs W) : TreeSaid w (.returned (.agg #[.slice A4 n c4])) (W.setCell ⟨w.heap.size, 0, none⟩ u) := by
  have hO := h.own.kept (grown_set_atK W w.heap.size 0 u) (.inr fun e => by have := (h.own.lt _ e).1; omega)
  refine ⟨_, cs, rfl, ?_, h.ok, h.bel.setCell (Nat.le_refl _) _⟩
  obtain ⟨A, c, e, hc⟩ := own_form hO
  injection e with e1 e2 e3
  subst e1 e2 e3
  rcases Nat.eq_zero_or_pos cs.length with h0 | h0
  · exact ⟨A4, c4, rfl, hc, by have := h.ok.1; omega, fun h => by omega⟩
  · obtain ⟨g, cap, e, _, _⟩ := hO.form h0
    injection e with e1 e2 e3
    subst e1 e3
    refine cl_row rfl hc (by have := h.ok.1; omega) fun j u hu => ?_
    have hl : j < cs.length * 4 := by rw [← hO.1]; exact (List.getElem?_eq_some_iff.1 hu).1
    rw [hO.cellAt j hl]; exact hu
theorem news_four (W : World) (x y : ByteArray) : ∀ (j : Nat) (u : Value), [Value.string x, .string y, .slice none 0 0, .slice none 0 0][j]? = some u → (W.alloc (.cells #[.string x, .string y, .slice none 0 0, .slice none 0 0] 34)).cell? ((⟨W.heap.size, 0, none⟩ : Addr).add j) = some u :=
  World.news_of_block (heap_alloc_new W _)
theorem four_one (x y : ByteArray) : ∀ u ∈ [Value.string x, .string y, .slice none 0 0, .slice none 0 0], u.oneCell' = true := by
  intro u hu
  simp only [List.mem_cons, List.not_mem_nil, or_false] at hu
  rcases hu with rfl | rfl | rfl | rfl <;> rfl
set_option maxRecDepth 100000 in
set_option maxHeartbeats 8000000 in
theorem tree_any {w : World} {v : Value} (h : Is w v) : Calls Try.prog 6 #[v] w (TreeSaid w) := by
  obtain ⟨A, ln, cap, rfl, hcap, hmax, hx⟩ := h
  unfold maxLen at hmax
  have HX := Lib.hid hx
  clear hx
  go_enter Try.func6, Try.ntmps6
  go_upto_region 3 with (fail)
  refine gen_worldK (fun W => TrR w (.slice none 0 0) [] W) ?_ ?_
  · have a1 : Below w.heap.size w (w.alloc (.cells #[.slice none 0 0] 25)) := (Below.refl _ _).alloc (Nat.le_refl _) _
    have x1 := Bx.new w #[.slice none 0 0] 25
    generalize hw1 : w.alloc (.cells #[.slice none 0 0] 25) = w1 at a1 x1
    have s1 : w1.heap.size = w.heap.size + 1 := by rw [← hw1]; simp
    have x2 := Bx.new w1 (strsV namesT).toArray 9
    have a2 : Below w1.heap.size w1 (w1.alloc (.cells (strsV namesT).toArray 9)) := (Below.refl _ _).alloc (Nat.le_refl _) _
    have ew : (w1.alloc (.cells #[.string ⟨#[65]⟩, .string ⟨#[66]⟩, .string ⟨#[67]⟩, .string ⟨#[68]⟩, .string ⟨#[69]⟩, .string ⟨#[]⟩, .string ⟨#[69, 120, 99, 101, 112, 116, 105, 111, 110]⟩, .string ⟨#[90, 101, 114, 111, 70, 97, 117, 108, 116]⟩, .string ⟨#[90, 122]⟩] 9)) = w1.alloc (.cells (strsV namesT).toArray 9) := rfl
    rw [ew]
    generalize hw2 : w1.alloc (.cells (strsV namesT).toArray 9) = w2 at a2 x2
    have s2 : w2.heap.size = w.heap.size + 2 := by rw [← hw2]; simp; omega
    have a3 : Below w2.heap.size w2 (w2.alloc (.cells #[.slice none 0 0] 25)) := (Below.refl _ _).alloc (Nat.le_refl _) _
    have x3 := Bx.new w2 #[.slice none 0 0] 25
    rw [s1] at x2; rw [s2] at x3
    exact ⟨a1.trans ((a2.trans (a3.mono a2.size)).mono a1.size), (x1.next a2).next a3, x2.next a3, x3, World.ownsRow_nil _ _ _ _, TreeOk.nil⟩
  intro W hW
  have HW := Lib.hid hW
  clear hW
  go_wp2_with fail
  go_loopw [5] (fun v5 wr => ∃ (k : Nat) (v4 : Value) (cs : List Hdr), v5 = .int .i64 k ∧ k ≤ ln ∧ k ≤ 6 ∧ Hid (cs.length = k) ∧ TrR w v4 cs wr) (fun v5 wr => 6 - (intOf v5).toNat)
  case atStart => exact ⟨0, _, [], rfl, Nat.zero_le _, Nat.zero_le _, Lib.hid rfl, HW.out⟩
  case round =>
    obtain ⟨k, v4, cs, rfl, hk, hk6, HK, hR⟩ := hrel
    clear HW
    by_cases hlt : k < ln
    · by_cases hlt6 : k < 6
      · obtain ⟨b, o, x, rfl, hc⟩ := HX.out k hlt
        have hc2 := KeepC.below hR.bel _ _ hc
        obtain ⟨x', i, a1, a2, a3, a4, a5, a6⟩ := whichK x 81 (by omega) (by omega)
        have e81 : ((81 : Nat) : Int) = 81 := rfl
        rw [e81] at a2 a6
        obtain ⟨q, hq⟩ : ∃ q, i / 64 = q := ⟨_, rfl⟩
        have e1 : (i : Int).tdiv 64 = (q : Int) := by rw [← hq, Int.tdiv_eq_ediv_of_nonneg (by omega)]; rfl
        have hq2 : q ≤ 1 := by omega
        have e1w : IntKind.i64.wrap (q : Int) = q := by rw [IntKind.wrap_i64]; omega
        have e2 : IntKind.i64.wrap ((k : Int) + q) = (k : Int) + q := by rw [IntKind.wrap_i64]; omega
        obtain ⟨r5, hr5⟩ : ∃ r, (k + q) % 5 = r := ⟨_, rfl⟩
        have h5 : r5 < 5 := by omega
        have e3 : ((k : Int) + q).tmod 5 = (r5 : Int) := by rw [Int.tmod_eq_emod_of_nonneg (by omega), ← hr5]; omega
        obtain ⟨r9, hr9⟩ : ∃ r, i % 9 = r := ⟨_, rfl⟩
        have h9 : r9 < 9 := by omega
        have e4 : (i : Int).tmod 9 = (r9 : Int) := by rw [Int.tmod_eq_emod_of_nonneg (by omega), ← hr9]; omega
        have e3w : IntKind.i64.wrap (r5 : Int) = r5 := by rw [IntKind.wrap_i64]; omega
        have e4w : IntKind.i64.wrap (r9 : Int) = r9 := by rw [IntKind.wrap_i64]; omega
        obtain ⟨y5, hy5⟩ : ∃ y, namesT[r5]? = some y := ⟨namesT[r5]'(by show r5 < 9; omega), List.getElem?_eq_getElem _⟩
        obtain ⟨y9, hy9⟩ : ∃ y, namesT[r9]? = some y := ⟨namesT[r9]'(by show r9 < 9; omega), List.getElem?_eq_getElem _⟩
        have n5 : wr.cell? ⟨w.heap.size + 1, r5, none⟩ = some (.string y5) := by
          rw [hR.nbox.cell r5]; simpa using strsV_at hy5
        have n9 : wr.cell? ⟨w.heap.size + 1, r9, none⟩ = some (.string y9) := by
          rw [hR.nbox.cell r9]; simpa using strsV_at hy9
        have p0 := hR.pbox.cell 0
        have pf := hR.pbox.fro 0
        have hlp := hR.pbox.lt
        have hln := hR.nbox.lt
        have i5 : (r5 : Int) < 9 := by omega
        have i9 : (r9 : Int) < 9 := by omega
        have HY5 := Lib.hid hy5
        have HY9 := Lib.hid hy9
        have HR := Lib.hid hR.drew
        have hcl : cs.length ≤ 6 := by rw [HK.out]; exact hk6
        obtain ⟨ii, hii, hiz, his, hib⟩ := info_parts Try.infoCls
        have hwB : w.heap.size + 3 ≤ wr.heap.size := hR.pbox.lt
        clear hc hy5 hy9 hR hq hr5 hr9 e81
        go_upto_region 7 with (fail)
        go_region_law (refine step_append_lies _ rfl (.tmp 26) (.tmp 41) 23 rfl (w.heap.size + 3) 34 ii _ 4 80 Try.underlying23 hii hiz his hib rfl (by decide) v4 cs.length (hdrsV cs) rfl (HR.out.own.alloc _) ⟨wr.drew.heap.size, 0, none⟩ 1 1 [.string y5, .string y9, .slice none 0 0, .slice none 0 0] rfl rfl (news_four _ _ _) (four_one _ _) (by decide) (by unfold maxLen; omega) (by omega) (by show w.heap.size + 3 ≤ (World.alloc _ _).heap.size; simp; omega) (wr.heap.size + 1) (by simp) ?_; intro g3 cap3 w6 ho6 hg6 hat6 hlt6'; obtain ⟨q0, qf⟩ := HR.out.box6 hg6; have HO6 := Lib.hid ho6; have HG6 := Lib.hid hg6; clear ho6 hg6 hat6)
        all_goals
          have hN := Lib.hid (HR.out.more (by rw [HK.out]; exact hlt6) h5 h9 HY5.out HY9.out HO6.out HG6.out)
          clear n5 n9 p0 pf hc2 q0 qf
          go_wp2_with fail
          go_roundw
          case rel => exact ⟨k + 1, _, _, by go_num, by omega, by omega, Lib.hid (by rw [List.length_append, HK.out]; rfl), hN.out⟩
          case measure => simp [intOf]; omega
      · obtain rfl : k = 6 := by omega
        obtain ⟨A4, c4, rfl, hc4⟩ := own_form hR.own
        have HR := Lib.hid hR
        have p0 : wr.cell? ⟨w.heap.size + 1 + 1, 0, none⟩ = some (.slice A4 cs.length c4) := hR.pbox.cell 0
        have r0 := hR.rbox.cell 0
        have rf := hR.rbox.fro 0
        clear hR
        go_wp2_with fail
        refine bodyPost_ret (v := .agg #[.slice A4 cs.length c4]) (by simp [results, Try.results6, go_sem, r0]) rfl ?_
        exact HR.out.end_
    · obtain ⟨A4, c4, rfl, hc4⟩ := own_form hR.own
      have HR := Lib.hid hR
      have p0 : wr.cell? ⟨w.heap.size + 1 + 1, 0, none⟩ = some (.slice A4 cs.length c4) := hR.pbox.cell 0
      have r0 := hR.rbox.cell 0
      have rf := hR.rbox.fro 0
      clear hR
      go_wp2_with fail
      refine bodyPost_ret (v := .agg #[.slice A4 cs.length c4]) (by simp [results, Try.results6, go_sem, r0]) rfl ?_
      exact HR.out.end_
end Go.Proofs.Ytiibneldabfokaa
