/- Contracts of tree.each with a count, of tree.count, Expr, Stmts, Nodes. -/
import Derived.Test.YtlpddmncgmhkeaaTreeB
import Derived.Deep.LoopGhost
import Derived.Deep.AppendLies
set_option linter.unusedSimpArgs false
set_option linter.unusedVariables false
namespace Go.Proofs.Ytlpddmncgmhkeaa
open Go.RowKit

/-- A block of memory, known whole. -/
def Bx (w : World) (b : Nat) (cs : Array Value) (T : TypeId) : Prop := w.heap[b]? = some (.cells cs T (0, 0))
theorem Bx.new (w : World) (cs : Array Value) (T : TypeId) : Bx (w.alloc (.cells cs T)) w.heap.size cs T := heap_alloc_new w _
theorem Bx.lt {w : World} {b : Nat} {cs : Array Value} {T : TypeId} (h : Bx w b cs T) : b < w.heap.size := (Array.getElem?_eq_some_iff.1 h).1
theorem Bx.below {w w1 : World} {b B : Nat} {cs : Array Value} {T : TypeId} (h : Bx w b cs T) (hb : Below B w w1) (hB : b < B) : Bx w1 b cs T := (hb.block b hB).trans h
theorem Bx.next {w w1 : World} {b : Nat} {cs : Array Value} {T : TypeId} (h : Bx w b cs T) (hb : Below w.heap.size w w1) : Bx w1 b cs T := h.below hb h.lt
theorem Bx.grew {w w1 : World} {b : Nat} {cs : Array Value} {T : TypeId} {v v' : Value} (h : Bx w b cs T) (hg : Grew w w1 v v') (hne : v.ownBlock ≠ some b) : Bx w1 b cs T := (hg.1.block b h.lt (fun e => hne e.symm)).trans h
theorem Bx.cell {w : World} {b : Nat} {cs : Array Value} {T : TypeId} (h : Bx w b cs T) (o : Nat) : w.cell? ⟨b, o, none⟩ = cs[o]? := cell_of_row w b o _ T (0, 0) h
theorem Bx.fro {w : World} {b : Nat} {cs : Array Value} {T : TypeId} (h : Bx w b cs T) (o : Nat) : w.frozen? ⟨b, o, none⟩ = false := by
  unfold Bx at h; simp [World.frozen?, h]
theorem Bx.set {w : World} {b : Nat} {cs : Array Value} {T : TypeId} (h : Bx w b cs T) (o : Nat) (u : Value) : Bx (w.setCell ⟨b, o, none⟩ u) b (cs.setIfInBounds o u) T := by
  unfold Bx at h ⊢
  simp [World.setCell, Array.getElem?_modify, h]

theorem step_any (x : Value) (c : Nat) (m : Int) (w : World) (h : Bx w c #[.int .i64 m] 3) (h0 : 0 ≤ m) (h1 : m ≤ 1000000) :
    Calls Try.prog 44 #[x, .pointer (some ⟨c, 0, none⟩)] w fun e w' => e = .returned (.tuple #[]) ∧ w' = w.setCell ⟨c, 0, none⟩ (.int .i64 (m + 1)) := by
  have c0 : w.cell? ⟨c, 0, none⟩ = some (.int .i64 m) := h.cell 0
  have f0 := h.fro 0
  clear h
  go_enter Try.func44, Try.ntmps44
  go_wp2_with fail
  exact bodyPost_end (v := .tuple #[]) (by simp [results, Try.results44, go_sem]) rfl ⟨rfl, rfl⟩
theorem own_form {w : World} {B sz n : Nat} {e : TypeId} {v : Value} {xs : List Value} (h : w.ownsRow B e sz v n xs) : ∃ A cap, v = .slice A n cap ∧ n ≤ cap := by
  rcases h.2 with ⟨rfl, rfl⟩ | ⟨g, cap, cur, rfl, _, _, hc, _⟩
  · exact ⟨none, 0, rfl, Nat.le_refl _⟩
  · exact ⟨_, cap, rfl, hc⟩
/-- The last part of a row. -/
theorem own_last {w : World} {B : Nat} {e : TypeId} {v : Value} {ps : List Pt} {x : Pt} (h : w.ownsRow B e 1 v (ps ++ [x]).length ((ps ++ [x]).map ptV)) :
    ∃ g cap, v = .slice (some ⟨g, 0, none⟩) (ps.length + 1) cap ∧ ps.length + 1 ≤ cap ∧ w.cell? ⟨g, ps.length, none⟩ = some (ptV x) ∧ w.ownsRow B e 1 (.slice (some ⟨g, 0, none⟩) ps.length cap) ps.length (ps.map ptV) := by
  rw [List.length_append, List.map_append] at h
  obtain ⟨g, cap, rfl, _, _⟩ := h.form (by simp)
  have hc := h.cells (g := g) rfl ps.length (ptV x) (by simp)
  have hadd : (⟨g, 0, none⟩ : Addr).add ps.length = ⟨g, ps.length, none⟩ := by unfold Addr.add; split <;> simp_all
  rw [hadd] at hc
  refine ⟨g, cap, rfl, ?_, hc, ownsRow_pop (last := [x].map ptV) (by simp) h⟩
  obtain ⟨A, cap', hv, hle⟩ := own_form h
  injection hv with _ _ h3
  subst h3; exact hle
structure EC (W0 : World) (c : Nat) (m : Int) (N : Nat) (ps : List Pt) (v : Value) (w : World) : Prop where
  own : w.ownsRow W0.heap.size 71 1 v ps.length (ps.map ptV)
  bel : Below W0.heap.size W0 w
  ne : v.ownBlock ≠ some c
  hc : W0.heap.size ≤ c
  bx : Bx w c #[.int .i64 (m + (N - sizeP ps : Nat))] 3
  at_ : ∀ p ∈ ps, p.at_ W0
  le : sizeP ps ≤ N
theorem sizeP_one (x : Pt) : sizeP [x] = x.x.size := by simp [sizeP, sizeL]
/-- The box has gone up by one. -/
theorem EC.set {W0 w : World} {c N : Nat} {m k : Int} {ps : List Pt} {x : Pt} {g cap : Nat} (h : EC W0 c m N (ps ++ [x]) (.slice (some ⟨g, 0, none⟩) (ps.length + 1) cap) w) (hk : k = m + (N - sizeP (ps ++ [x]) : Nat) + 1) :
    Below W0.heap.size W0 (w.setCell ⟨c, 0, none⟩ (.int .i64 k)) ∧ (w.setCell ⟨c, 0, none⟩ (.int .i64 k)).ownsRow W0.heap.size 71 1 (.slice (some ⟨g, 0, none⟩) ps.length cap) ps.length (ps.map ptV) ∧ x.at_ W0 ∧ ps.length + (kidsP x.x).length ≤ N := by
  have ho := h.own
  obtain ⟨g', cap', hv, _, _, ho'⟩ := own_last ho
  injection hv with h1 h2 h3
  injection h1 with h1
  injection h1 with h1
  subst h1; subst h3
  have hx := h.at_ x (by simp)
  refine ⟨h.bel.setCell h.hc _, ownsRow_setCell_other ho' (by have := h.ne; simpa [Value.ownBlock] using this) _, hx, ?_⟩
  have := h.le
  rw [sizeP_append, sizeP_one, sizeP_kids hx.2] at this
  have := len_sizeP ps
  have := len_sizeP (kidsP x.x)
  omega
theorem EC.step {W0 w w2 : World} {c N : Nat} {m k : Int} {ps : List Pt} {x : Pt} {g cap : Nat} {v2 : Value} (h : EC W0 c m N (ps ++ [x]) (.slice (some ⟨g, 0, none⟩) (ps.length + 1) cap) w) (hk : k = m + (N - sizeP (ps ++ [x]) : Nat) + 1)
    (ho : w2.ownsRow W0.heap.size 71 1 v2 (ps ++ kidsP x.x).length ((ps ++ kidsP x.x).map ptV)) (hg : Grew (w.setCell ⟨c, 0, none⟩ (.int .i64 k)) w2 (.slice (some ⟨g, 0, none⟩) ps.length cap) v2) :
    EC W0 c m N (ps ++ kidsP x.x) v2 w2 ∧ sizeP (ps ++ kidsP x.x) < sizeP (ps ++ [x]) := by
  obtain ⟨hb, ho1, hx, hl⟩ := h.set hk
  have hb2 := grew_below hb ho1 hg
  have hbx := (h.bx.set 0 (.int .i64 k)).grew hg (by have := h.ne; simpa [Value.ownBlock] using this)
  have hlt : c < w.heap.size := h.bx.lt
  have hsz := h.le
  rw [sizeP_append, sizeP_one, sizeP_kids hx.2] at hsz
  refine ⟨⟨ho, hb2, ?_, h.hc, ?_, ?_, by rw [sizeP_append]; omega⟩, by rw [sizeP_append, sizeP_append, sizeP_one, sizeP_kids hx.2]; omega⟩
  · rcases hg.2 with e | e
    · rw [e]; have := h.ne; simpa [Value.ownBlock] using this
    · intro e'; have := e c e'; simp at this; omega
  · have : (#[Value.int .i64 (m + (N - sizeP (ps ++ [x]) : Nat))].setIfInBounds 0 (.int .i64 k)) = #[.int .i64 (m + (N - sizeP (ps ++ kidsP x.x) : Nat))] := by
      rw [hk, sizeP_append, sizeP_append, sizeP_one, sizeP_kids hx.2]
      simp only [List.setIfInBounds_toArray, List.set_cons_zero]
      congr 3; omega
    rw [← this]; exact hbx
  · intro p hp
    rcases List.mem_append.1 hp with hp | hp
    · exact h.at_ p (by simp [hp])
    · exact kidsP_at hx.2 p hp
theorem list_end {α : Type} (l : List α) : l = [] ∨ ∃ a x, l = a ++ [x] := by
  rcases List.eq_nil_or_concat l with h | ⟨a, x, h⟩
  · exact .inl h
  · exact .inr ⟨a, x, by simpa using h⟩
set_option maxRecDepth 100000 in
set_option maxHeartbeats 2000000 in
theorem each_count (W0 w : World) (c : Nat) (m : Int) (ps : List Pt) (v : Value) (h : EC W0 c m (sizeP ps) ps v w) (h0 : 0 ≤ m) (h1 : m + sizeP ps ≤ 1000000) :
    Calls Try.prog 22 #[v, .func (.func 44) #[] #[.pointer (some ⟨c, 0, none⟩)]] w fun e w' => e = .returned (.tuple #[]) ∧ Below W0.heap.size W0 w' ∧ Bx w' c #[.int .i64 (m + sizeP ps)] 3 := by
  obtain ⟨N, hN⟩ : ∃ N, sizeP ps = N := ⟨_, rfl⟩
  rw [hN] at h h1 ⊢
  have HN := Lib.hid hN; clear hN
  go_enter Try.func22, Try.ntmps22
  go_wp2_with fail
  go_loopg [0] N (fun q v0 wr => ∃ ps1, q = sizeP ps1 ∧ EC W0 c m N ps1 v0 wr)
  case atStart => exact ⟨ps, HN.out.symm, h⟩
  case round =>
    obtain ⟨ps1, rfl, hE⟩ := hrel
    clear h
    rcases list_end ps1 with rfl | ⟨a, x, rfl⟩
    · obtain ⟨A, cap, rfl, _⟩ := own_form hE.own
      have hbx := hE.bx
      have hbl := hE.bel
      clear hE
      go_wp2_with fail
      exact bodyPost_end (v := .tuple #[]) (by simp [results, Try.results22, go_sem]) rfl ⟨rfl, hbl, hbx⟩
    · obtain ⟨g, cap, rfl, hcap, hcell, _⟩ := own_last hE.own
      have hle := hE.le
      have hal := len_sizeP (a ++ [x])
      rw [List.length_append, List.length_singleton] at hal
      obtain ⟨k, hk⟩ : ∃ k, k = m + (N - sizeP (a ++ [x]) : Nat) + 1 := ⟨_, rfl⟩
      have hbx := hE.bx
      have hb1 : m + (N - sizeP (a ++ [x]) : Nat) = k - 1 := by omega
      rw [hb1] at hbx
      have HE := Lib.hid hE
      have HK := Lib.hid hk
      have hk0 : 0 ≤ k - 1 := by omega
      have hk1 : k - 1 ≤ 1000000 := by omega
      obtain ⟨hB, hO, hX, hL⟩ := hE.set hk
      have HS := Lib.hid (within_any W0 (wr.setCell ⟨c, 0, none⟩ (.int .i64 k)) (.slice (some ⟨g, 0, none⟩) a.length cap) a x hB hO hX (by omega))
      clear hE hk hb1 hB hO hX
      have hnn : (a.length : Int) + 1 ≤ 1000000 := by omega
      go_wp2_with (go_at_call 44; refine (step_any _ c (k - 1) _ hbx hk0 hk1).mono ?_; rintro e w1 ⟨rfl, rfl⟩)
      refine HS.out.mono ?_
      clear HS
      rintro e w2 ⟨v2, rfl, ho2, hg2⟩
      obtain ⟨hE2, hlt⟩ := HE.out.step HK.out ho2 hg2
      have HE2 := Lib.hid hE2
      have HLT := Lib.hid hlt
      clear hE2 hlt ho2 hg2 hbx hcell
      go_wp2_with fail
      go_roundg (sizeP (a ++ kidsP x.x))
      case rel => exact ⟨_, rfl, HE2.out⟩
      case measure => exact HLT.out
theorem count_any (W0 w : World) (ps : List Pt) (v : Value) (hb : Below W0.heap.size W0 w) (ho : w.ownsRow W0.heap.size 71 1 v ps.length (ps.map ptV)) (hp : ∀ p ∈ ps, p.at_ W0) (hs : sizeP ps ≤ 1000000) :
    Calls Try.prog 27 #[v] w fun e w' => e = .returned (.int .i64 (sizeP ps : Nat)) ∧ Below W0.heap.size W0 w' := by
  have hsz := hb.size
  have hE : EC W0 w.heap.size 0 (sizeP ps) ps v (w.alloc (.cells #[.int .i64 0] 3)) :=
    ⟨ho.alloc _, hb.alloc hsz _, fun e => by have := (ho.lt _ e).2; omega, hsz, by simpa using Bx.new w #[.int .i64 0] 3, hp, Nat.le_refl _⟩
  obtain ⟨N, hN⟩ : ∃ N, sizeP ps = N := ⟨_, rfl⟩
  have HC := Lib.hid (each_count W0 (w.alloc (.cells #[.int .i64 0] 3)) w.heap.size 0 ps v hE (by omega) (by omega))
  rw [hN] at HC ⊢
  clear hE ho hp hb hN
  go_enter Try.func27, Try.ntmps27
  go_wp2_with (go_at_call 22; refine HC.out.mono ?_; clear HC; rintro e w1 ⟨rfl, hb1, hbx⟩; have c0 : w1.cell? ⟨w.heap.size, 0, none⟩ = some (.int .i64 N) := by rw [hbx.cell 0]; simp)
  go_ret
  exact ⟨rfl, hb1⟩
end Go.Proofs.Ytlpddmncgmhkeaa
