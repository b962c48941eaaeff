/- Deep trees that a call makes itself: no program. -/
import Derived.Test.YtnphimechniplaaBareP
set_option linter.unusedSimpArgs false
set_option linter.unusedVariables false
namespace Go.Proofs.Ytnphimechniplaa
open Go.RowKit
theorem which (a : Int) (m : Nat) (hm : 0 < m) (hm2 : m < 9223372036854775808) : ∃ (x : Int) (i : Nat), IntKind.u64.wrap a = x ∧ x.tmod m = (i : Int) ∧ i < m ∧ IntKind.u64.wrap (i : Int) = i ∧ IntKind.i64.wrap (i : Int) = i ∧ IntKind.u64.wrap (m : Int) = m := by
  have h0 : 0 ≤ IntKind.u64.wrap a := by rw [IntKind.wrap_u64]; omega
  refine ⟨IntKind.u64.wrap a, (IntKind.u64.wrap a).toNat % m, rfl, ?_, Nat.mod_lt _ hm, ?_, ?_, ?_⟩
  · rw [Int.tmod_eq_emod_of_nonneg h0, Int.natCast_emod, Int.toNat_of_nonneg h0]
  · have := Nat.mod_lt (IntKind.u64.wrap a).toNat hm; rw [IntKind.wrap_u64]; omega
  · have := Nat.mod_lt (IntKind.u64.wrap a).toNat hm; rw [IntKind.wrap_i64]; omega
  · rw [IntKind.wrap_u64]; omega
theorem okT_at {x : Nd} {d : Nat} {r : Bool} (h2 : fitsB x = true) (h3 : (x.kids.all fun y => okT y (d + stepN x y)) = r) : okT x d = (decide (d ≤ 40) && r) := by rw [okT_eq, h2, h3]; rfl
/-- All blocks but R are as the tree wants them. -/
def KdX (R : Nat) (w : World) (x : Nd) : Prop := ∀ ws, (∀ k j u, k ≠ R → w.cell? ⟨k, j, none⟩ = some u → ws.cell? ⟨k, j, none⟩ = some u) → Kd ws x
theorem KdX.kd {R : Nat} {w : World} {x : Nd} (h : KdX R w x) : Kd w x := h w fun _ _ _ _ h => h
theorem KdX.keep {R : Nat} {w w' : World} {x : Nd} (h : KdX R w x) (hk : ∀ k j u, k ≠ R → w.cell? ⟨k, j, none⟩ = some u → w'.cell? ⟨k, j, none⟩ = some u) : KdX R w' x := fun ws hs => h ws fun k j u hn hu => hs k j u hn (hk k j u hn hu)
def dTrue : Nd := .ex 2 1 ⟨#[]⟩ ⟨#[]⟩ ⟨#[]⟩ (.slice none 0 0) [] ⟨#[]⟩ 0
def dNot (b : Nat) (x : Nd) : Nd := .ex 18 0 ⟨#[]⟩ ⟨#[33]⟩ ⟨#[]⟩ (.slice (some ⟨b, 0, none⟩) 1 1) [x] ⟨#[]⟩ 0
def dPrint (b : Nat) (x : Nd) : Nd := .st 7 0 ⟨#[]⟩ ⟨#[]⟩ (.slice (some ⟨b, 0, none⟩) 1 1) (.slice none 0 0) (.slice none 0 0) (.slice none 0 0) [x] [] [] [] 0
def dWhile (b c : Nat) (x y : Nd) : Nd := .st 5 0 ⟨#[]⟩ ⟨#[]⟩ (.slice (some ⟨b, 0, none⟩) 1 1) (.slice (some ⟨c, 0, none⟩) 1 1) (.slice none 0 0) (.slice none 0 0) [x] [y] [] [] 0
def dMeth (b : Nat) (s : Nd) : Nd := .mt false false ⟨#[118, 111, 105, 100]⟩ ⟨#[102]⟩ (.slice none 0 0) [] (.slice (some ⟨b, 0, none⟩) 1 1) [s]
def dCls (b : Nat) (m : Nd) : Nd := .cl ⟨#[65]⟩ ⟨#[]⟩ (.slice none 0 0) (.slice (some ⟨b, 0, none⟩) 1 1) [] [m]
theorem dk1 : fitsB dTrue = true := by decide +kernel
theorem dk2 : fitE 18 0 ⟨#[]⟩ ⟨#[33]⟩ ⟨#[]⟩ 1 = true := by decide +kernel
theorem dk3 : (nameOk ⟨#[102]⟩) = true := by decide +kernel
theorem dk4 : (classOk ⟨#[65]⟩) = true := by decide +kernel
theorem ok_true (d : Nat) : okT dTrue d = decide (d ≤ 40) := by rw [okT_at (r := true) dk1 rfl]; simp
/-- That deep it is. -/
def Deep (x : Nd) (i : Nat) : Prop := ∀ d, okT x d = decide (d + i ≤ 41)
theorem deep_true : Deep dTrue 1 := fun d => by rw [ok_true]; simp
theorem deep_not {x : Nd} {i b : Nat} (h : Deep x i) (ht : x.tag = .ex) : Deep (dNot b x) (i + 1) := fun d => by
  have hk : (((dNot b x).kids).all fun y => okT y (d + stepN (dNot b x) y)) = decide (d + 1 + i ≤ 41) := by
    simp only [dNot, Nd.kids, List.all_cons, List.all_nil, Bool.and_true, stepN, Nd.tag, ht]
    exact h (d + 1)
  rw [okT_at (x := dNot b x) dk2 hk, Bool.eq_iff_iff]
  simp only [Bool.and_eq_true, decide_eq_true_eq]; omega
theorem deep_print {x : Nd} {i b : Nat} (h : Deep x i) (ht : x.tag = .ex) (hi : 1 ≤ i) : Deep (dPrint b x) i := fun d => by
  have hk : (((dPrint b x).kids).all fun y => okT y (d + stepN (dPrint b x) y)) = decide (d + i ≤ 41) := by
    have h0 : stepN (dPrint b x) x = 0 := by unfold stepN; rw [ht]; rfl
    have hkk : (dPrint b x).kids = [x] := rfl
    rw [hkk]
    simp only [List.all_cons, List.all_nil, Bool.and_true, h0]
    exact h d
  have hf : fitsB (dPrint b x) = true := by
    simp [fitsB, dPrint, fitS, numS, typeS, nameS, exprsS, blocksS, emp, hasSup]
  rw [okT_at hf hk, Bool.eq_iff_iff]
  simp only [Bool.and_eq_true, decide_eq_true_eq]; omega
theorem deep_while {x : Nd} {i b c : Nat} (h : Deep x i) (ht : x.tag = .st) (hk11 : x.kind ≠ 11) : Deep (dWhile b c dTrue x) (i + 1) := fun d => by
  have hk : (((dWhile b c dTrue x).kids).all fun y => okT y (d + stepN (dWhile b c dTrue x) y)) = (decide (d ≤ 40) && decide (d + 1 + i ≤ 41)) := by
    have h0 : stepN (dWhile b c dTrue x) dTrue = 0 := rfl
    have h1 : stepN (dWhile b c dTrue x) x = 1 := by unfold stepN; rw [ht]; rfl
    have : (dWhile b c dTrue x).kids = [dTrue, x] := rfl
    rw [this]
    simp only [List.all_cons, List.all_nil, Bool.and_true, h0, h1, Nat.add_zero, ok_true]
    rw [h (d + 1)]
  have hf : fitsB (dWhile b c dTrue x) = true := by
    have : (x.kind == 11) = false := by rw [beq_eq_false_iff_ne]; exact hk11
    simp [fitsB, dWhile, fitS, numS, typeS, nameS, exprsS, blocksS, emp, hasSup, this]
  rw [okT_at hf hk, Bool.eq_iff_iff]
  simp only [Bool.and_eq_true, decide_eq_true_eq]; omega
theorem deep_may {s : Nd} {i b c : Nat} (h : Deep s i) (ht : s.tag = .st) (hk11 : s.kind ≠ 11) (hs : s.size ≤ 100) : mayB [dCls c (dMeth b s)] = decide (i ≤ 40) := by
  have hm : okT (dMeth b s) 0 = decide (i ≤ 40) := by
    have hk : (((dMeth b s).kids).all fun y => okT y (0 + stepN (dMeth b s) y)) = decide (1 + i ≤ 41) := by
      have h0 : stepN (dMeth b s) s = 1 := by unfold stepN; rw [ht]; rfl
      have hkk : (dMeth b s).kids = [s] := rfl
      rw [hkk]
      simp only [List.all_cons, List.all_nil, Bool.and_true, h0]
      exact h 1
    have hf : fitsB (dMeth b s) = true := by
      have : hasSup [s] = false := by
        have : (s.kind == 11) = false := by rw [beq_eq_false_iff_ne]; exact hk11
        simp [hasSup, this]
      simp [fitsB, dMeth, fitM, this, dk3, fitP]
    rw [okT_at hf hk, Bool.eq_iff_iff]
    simp only [Bool.and_eq_true, decide_eq_true_eq]; omega
  have hc : okT (dCls c (dMeth b s)) 0 = decide (i ≤ 40) := by
    have hk : (((dCls c (dMeth b s)).kids).all fun y => okT y (0 + stepN (dCls c (dMeth b s)) y)) = decide (i ≤ 40) := by
      have : (dCls c (dMeth b s)).kids = [dMeth b s] := rfl
      rw [this]
      have h1 : stepN (dCls c (dMeth b s)) (dMeth b s) = 0 := rfl
      simp only [List.all_cons, List.all_nil, Bool.and_true, h1]
      exact hm
    have hf : fitsB (dCls c (dMeth b s)) = true := by simp [fitsB, dCls, dk4, emp]
    rw [okT_at hf hk]; simp
  have hz : sizeL [dCls c (dMeth b s)] = s.size + 2 := by simp [sizeL, dCls, dMeth, Nd.size]; omega
  unfold mayB
  rw [hz]
  have h3 : decide (s.size + 2 ≤ 3000) = true := decide_eq_true (by omega)
  simp [hc, h3]
  intro; omega
end Go.Proofs.Ytnphimechniplaa
