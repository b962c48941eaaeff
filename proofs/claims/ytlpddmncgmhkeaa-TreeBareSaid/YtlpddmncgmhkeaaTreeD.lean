/- Contracts of tree.Expr, Stmts, Nodes. -/
import Derived.Test.YtlpddmncgmhkeaaTreeC
set_option linter.unusedSimpArgs false
set_option linter.unusedVariables false
namespace Go.Proofs.Ytlpddmncgmhkeaa
open Go.RowKit

theorem at_new {w : World} {x : Nd} {T : TypeId} {cs : Array Value} (hk : Kd w x) (hc : cs.toList = cellsN x) : Pt.at_ (w.alloc (.cells cs T)) ⟨w.heap.size, 0, x⟩ := by
  refine ⟨fun j u hu => ?_, Kd.keep (Keep.below ((Below.refl _ w).alloc (Nat.le_refl _) _)) _ hk⟩
  have := (Bx.new w cs T).cell j
  simp only [Nat.zero_add]
  rw [this, ← hu, ← hc]; simp
theorem below_box {w w1 : World} {o : Obj} (hb : Below (w.alloc o).heap.size (w.alloc o) w1) : Below w.heap.size w w1 :=
  ((Below.refl _ w).alloc (Nat.le_refl _) o).trans (hb.mono (by simp))
theorem own_one (w : World) (b : Nat) (p : Pt) (u : Value) (hb : b = w.heap.size) (hu : u = ptV p) : (w.alloc (.cells #[u] 71)).ownsRow w.heap.size 71 1 (.slice (some ⟨b, 0, none⟩) 1 1) [p].length ([p].map ptV) := by
  have := World.ownsRow_lit (base := w.heap.size) (e := 71) (size := 1) w #[u] 1 (Nat.le_refl _) (by unfold maxLen; omega) (by simp)
  rw [hb, hu] at *; simpa using this
/-- One part alone, in a world of which it is the last block. -/
theorem count_one (w : World) (T : TypeId) (cs : Array Value) (x : Nd) (s : Nat) (hk : Kd w x) (hc : cs.toList = cellsN x) (hs : x.size = s) (hs2 : s ≤ 1000000) (u : Value) (hu : u = .iface x.tag.ptr (.pointer (some ⟨w.heap.size, 0, none⟩))) :
    Calls Try.prog 27 #[.slice (some ⟨w.heap.size + 1, 0, none⟩) 1 1] ((w.alloc (.cells cs T)).alloc (.cells #[u] 71)) fun e w' => e = .returned (.int .i64 (s : Nat)) ∧ Below w.heap.size w w' := by
  have hp := at_new (T := T) hk hc
  have ho := own_one (w.alloc (.cells cs T)) (w.heap.size + 1) ⟨w.heap.size, 0, x⟩ u (by simp) hu
  have := count_any (w.alloc (.cells cs T)) _ _ _ ((Below.refl _ _).alloc (Nat.le_refl _) (.cells #[u] 71)) ho (by intro p hp'; simp at hp'; subst hp'; exact hp) (by rw [sizeP_one, hs]; exact hs2)
  refine this.mono ?_
  rintro e w' ⟨rfl, hb⟩
  rw [sizeP_one]
  refine ⟨by rw [← hs], below_box hb⟩
theorem expr_any (w : World) (k n : Int) (tx nm ty : ByteArray) (nv : Value) (l : List Nd) (own : ByteArray) (nth : Int) (hk : Kd w (.ex k n tx nm ty nv l own nth)) (s : Nat) (hs : (Nd.ex k n tx nm ty nv l own nth).size = s) (hs2 : s ≤ 1000000) :
    Calls Try.prog 15 #[.agg #[.int .i64 k, .int .i32 n, .string tx, .string nm, .string ty, nv, .string own, .int .i64 nth]] w fun e w' => e = .returned (.int .i64 s) ∧ Below w.heap.size w w' := by
  have HS := Lib.hid (count_one w 41 #[.int .i64 k, .int .i32 n, .string tx, .string nm, .string ty, nv, .string own, .int .i64 nth] _ s hk rfl hs hs2 _ rfl)
  clear hk hs
  go_enter Try.func15, Try.ntmps15
  go_wp2_with (go_at_call 27; refine HS.out.mono ?_; clear HS; rintro e w1 ⟨rfl, hb⟩)
  go_ret
  exact ⟨rfl, hb⟩
theorem stmts_any (w : World) (v : Value) (l : List Nd) (hr : Rw w .st v l) (hk : KdL w l) (s : Nat) (hs : sizeL l = s) (hs2 : s ≤ 1000000) :
    Calls Try.prog 16 #[v] w fun e w' => e = .returned (.int .i64 s) ∧ Below w.heap.size w w' := by
  have hl := len_sizeL l
  have hx : sizeP (ptsV .st v l) = s := by rw [sizeP, ptsV_x hr]; exact hs
  have hat := ptsV_at hr hk
  have HA := Lib.hid (add_st w w.heap.size (.slice none 0 0) [] v l (Nat.le_refl _) (by simpa using World.ownsRow_nil w w.heap.size 71 1) hr (by simp; omega))
  have HC : Hid (∀ w1 v1, Below w.heap.size w w1 → w1.ownsRow w.heap.size 71 1 v1 (ptsV .st v l).length ((ptsV .st v l).map ptV) → Calls Try.prog 27 #[v1] w1 fun e w' => e = .returned (.int .i64 s) ∧ Below w.heap.size w w') := by
    show ∀ w1 v1, _
    intro w1 v1 hb ho
    have := count_any w w1 _ v1 hb ho hat (by omega)
    rw [hx] at this; exact this
  clear hr hk hs hl hx hat
  go_enter Try.func16, Try.ntmps16
  go_wp2_with (first | (go_at_call 30; refine HA.out.mono ?_; clear HA; rintro e w1 ⟨v1, rfl, ho1, hg1⟩; have hb1 := hg1.of_nil rfl) | (go_at_call 27; refine (HC.out _ _ hb1 ho1).mono ?_; clear HC; rintro e w2 ⟨rfl, hb2⟩))
  go_ret
  exact ⟨rfl, hb2⟩
theorem nodes_any (w : World) (v : Value) (l : List Nd) (hr : Rw w .cl v l) (hk : KdL w l) (s : Nat) (hs : sizeL l = s) (hs2 : s ≤ 1000000) :
    Calls Try.prog 10 #[.agg #[v]] w fun e w' => e = .returned (.int .i64 s) ∧ Below w.heap.size w w' := by
  have K := Keep.below ((Below.refl _ w).alloc (Nat.le_refl _) (.cells #[v] 24))
  have hl := len_sizeL l
  have hx : sizeP (ptsV .cl v l) = s := by rw [sizeP, ptsV_x hr]; exact hs
  have hat := ptsV_at (hr.keep K) (KdL.keep K _ hk)
  have HA := Lib.hid (add_cl (w.alloc (.cells #[v] 24)) (w.alloc (.cells #[v] 24)).heap.size (.slice none 0 0) [] v l (Nat.le_refl _) (by simpa using World.ownsRow_nil _ _ 71 1) (hr.keep K) (by simp; omega))
  have HC : Hid (∀ w1 v1, Below (w.alloc (.cells #[v] 24)).heap.size (w.alloc (.cells #[v] 24)) w1 → w1.ownsRow (w.alloc (.cells #[v] 24)).heap.size 71 1 v1 (ptsV .cl v l).length ((ptsV .cl v l).map ptV) → Calls Try.prog 27 #[v1] w1 fun e w' => e = .returned (.int .i64 s) ∧ Below w.heap.size w w') := by
    show ∀ w1 v1, _
    intro w1 v1 hb ho
    have := count_any (w.alloc (.cells #[v] 24)) w1 _ v1 hb ho hat (by omega)
    rw [hx] at this
    refine this.mono ?_
    rintro e w' ⟨rfl, hb'⟩
    exact ⟨rfl, below_box hb'⟩
  clear hr hk hs hl hx hat
  go_enter Try.func10, Try.ntmps10
  go_wp2_with (first | (go_at_call 23; refine HA.out.mono ?_; clear HA; rintro e w1 ⟨v1, rfl, ho1, hg1⟩; have hb1 := hg1.of_nil rfl) | (go_at_call 27; refine (HC.out _ _ hb1 ho1).mono ?_; clear HC; rintro e w2 ⟨rfl, hb2⟩))
  go_ret
  exact ⟨rfl, hb2⟩
end Go.Proofs.Ytlpddmncgmhkeaa
