/- Contract of tree.addWithin: what stands right within a part goes behind a list of parts. Written by wip/tools/gen_tree_b.py. -/
import Derived.Test.YtlpddmncgmhkeaaTreeA
import Derived.Deep.RegionWith
set_option linter.unusedSimpArgs false
set_option linter.unusedVariables false
namespace Go.Proofs.Ytlpddmncgmhkeaa
open Go.RowKit

@[go_sem] theorem is_expr_expr (v : Value) (w : World) : (Instr.typeAssert (.iface 67 v) 71 67 true).run Try.prog w = .ok (.tuple #[v, .bool true]) w := by kernel_rfl
@[go_sem] theorem is_expr_stmt (v : Value) (w : World) : (Instr.typeAssert (.iface 67 v) 71 75 true).run Try.prog w = .ok (.tuple #[.pointer none, .bool false]) w := by kernel_rfl
@[go_sem] theorem is_expr_field (v : Value) (w : World) : (Instr.typeAssert (.iface 67 v) 71 80 true).run Try.prog w = .ok (.tuple #[.pointer none, .bool false]) w := by kernel_rfl
@[go_sem] theorem is_expr_method (v : Value) (w : World) : (Instr.typeAssert (.iface 67 v) 71 78 true).run Try.prog w = .ok (.tuple #[.pointer none, .bool false]) w := by kernel_rfl
@[go_sem] theorem is_expr_class (v : Value) (w : World) : (Instr.typeAssert (.iface 67 v) 71 65 true).run Try.prog w = .ok (.tuple #[.pointer none, .bool false]) w := by kernel_rfl
@[go_sem] theorem is_stmt_expr (v : Value) (w : World) : (Instr.typeAssert (.iface 75 v) 71 67 true).run Try.prog w = .ok (.tuple #[.pointer none, .bool false]) w := by kernel_rfl
@[go_sem] theorem is_stmt_stmt (v : Value) (w : World) : (Instr.typeAssert (.iface 75 v) 71 75 true).run Try.prog w = .ok (.tuple #[v, .bool true]) w := by kernel_rfl
@[go_sem] theorem is_stmt_field (v : Value) (w : World) : (Instr.typeAssert (.iface 75 v) 71 80 true).run Try.prog w = .ok (.tuple #[.pointer none, .bool false]) w := by kernel_rfl
@[go_sem] theorem is_stmt_method (v : Value) (w : World) : (Instr.typeAssert (.iface 75 v) 71 78 true).run Try.prog w = .ok (.tuple #[.pointer none, .bool false]) w := by kernel_rfl
@[go_sem] theorem is_stmt_class (v : Value) (w : World) : (Instr.typeAssert (.iface 75 v) 71 65 true).run Try.prog w = .ok (.tuple #[.pointer none, .bool false]) w := by kernel_rfl
@[go_sem] theorem is_field_expr (v : Value) (w : World) : (Instr.typeAssert (.iface 80 v) 71 67 true).run Try.prog w = .ok (.tuple #[.pointer none, .bool false]) w := by kernel_rfl
@[go_sem] theorem is_field_stmt (v : Value) (w : World) : (Instr.typeAssert (.iface 80 v) 71 75 true).run Try.prog w = .ok (.tuple #[.pointer none, .bool false]) w := by kernel_rfl
@[go_sem] theorem is_field_field (v : Value) (w : World) : (Instr.typeAssert (.iface 80 v) 71 80 true).run Try.prog w = .ok (.tuple #[v, .bool true]) w := by kernel_rfl
@[go_sem] theorem is_field_method (v : Value) (w : World) : (Instr.typeAssert (.iface 80 v) 71 78 true).run Try.prog w = .ok (.tuple #[.pointer none, .bool false]) w := by kernel_rfl
@[go_sem] theorem is_field_class (v : Value) (w : World) : (Instr.typeAssert (.iface 80 v) 71 65 true).run Try.prog w = .ok (.tuple #[.pointer none, .bool false]) w := by kernel_rfl
@[go_sem] theorem is_method_expr (v : Value) (w : World) : (Instr.typeAssert (.iface 78 v) 71 67 true).run Try.prog w = .ok (.tuple #[.pointer none, .bool false]) w := by kernel_rfl
@[go_sem] theorem is_method_stmt (v : Value) (w : World) : (Instr.typeAssert (.iface 78 v) 71 75 true).run Try.prog w = .ok (.tuple #[.pointer none, .bool false]) w := by kernel_rfl
@[go_sem] theorem is_method_field (v : Value) (w : World) : (Instr.typeAssert (.iface 78 v) 71 80 true).run Try.prog w = .ok (.tuple #[.pointer none, .bool false]) w := by kernel_rfl
@[go_sem] theorem is_method_method (v : Value) (w : World) : (Instr.typeAssert (.iface 78 v) 71 78 true).run Try.prog w = .ok (.tuple #[v, .bool true]) w := by kernel_rfl
@[go_sem] theorem is_method_class (v : Value) (w : World) : (Instr.typeAssert (.iface 78 v) 71 65 true).run Try.prog w = .ok (.tuple #[.pointer none, .bool false]) w := by kernel_rfl
@[go_sem] theorem is_class_expr (v : Value) (w : World) : (Instr.typeAssert (.iface 65 v) 71 67 true).run Try.prog w = .ok (.tuple #[.pointer none, .bool false]) w := by kernel_rfl
@[go_sem] theorem is_class_stmt (v : Value) (w : World) : (Instr.typeAssert (.iface 65 v) 71 75 true).run Try.prog w = .ok (.tuple #[.pointer none, .bool false]) w := by kernel_rfl
@[go_sem] theorem is_class_field (v : Value) (w : World) : (Instr.typeAssert (.iface 65 v) 71 80 true).run Try.prog w = .ok (.tuple #[.pointer none, .bool false]) w := by kernel_rfl
@[go_sem] theorem is_class_method (v : Value) (w : World) : (Instr.typeAssert (.iface 65 v) 71 78 true).run Try.prog w = .ok (.tuple #[.pointer none, .bool false]) w := by kernel_rfl
@[go_sem] theorem is_class_class (v : Value) (w : World) : (Instr.typeAssert (.iface 65 v) 71 65 true).run Try.prog w = .ok (.tuple #[v, .bool true]) w := by kernel_rfl

theorem Grew.of_drew {w w' : World} {v v' : Value} (h : Grew w.drew w' v v') : Grew w w' v v' := ⟨⟨h.1.os, h.1.tape, h.1.output, h.1.size, h.1.block⟩, h.2⟩
theorem grew_below {W0 w w' : World} {v v' : Value} {e : TypeId} {n : Nat} {xs : List Value} (hb : Below W0.heap.size W0 w) (ho : w.ownsRow W0.heap.size e 1 v n xs) (hg : Grew w w' v v') : Below W0.heap.size W0 w' :=
  hb.trans (hg.below hb.size fun k hk => (ho.lt k hk).1)
theorem Pt.at_.below {W0 w : World} {p : Pt} (h : p.at_ W0) (hb : Below W0.heap.size W0 w) : p.at_ w := h.keep (Keep.below hb)
theorem Pt.at_.cell {w : World} {p : Pt} (h : p.at_ w) (j : Nat) {u : Value} (hu : (cellsN p.x)[j]? = some u) : w.cell? ⟨p.b, p.o + j, none⟩ = some u := h.1 j u hu
theorem said_trans {a b c : World} {B : Nat} {v v1 : Value} {qs : List Pt} {e : Ending} (hg : Grew a b v v1) (h : AddSaid b B v1 qs e c) : AddSaid a B v qs e c := by
  obtain ⟨v2, he, ho, hg2⟩ := h
  exact ⟨v2, he, ho, hg.trans hg2⟩
theorem said_mk {a c : World} {B : Nat} {v v1 : Value} {qs qs' : List Pt} (ho : c.ownsRow B 71 1 v1 qs.length (qs.map ptV)) (hg : Grew a c v v1) (hq : qs = qs') : AddSaid a B v qs' (.returned v1) c := by subst hq; exact ⟨v1, rfl, ho, hg⟩
set_option maxRecDepth 100000 in
set_option maxHeartbeats 2000000 in
theorem within_ex (W0 w : World) (v : Value) (ps : List Pt) (b o : Nat) (k n : Int) (tx nm ty : ByteArray) (nv : Value) (l : List Nd) (own : ByteArray) (nth : Int) (hb : Below W0.heap.size W0 w)
    (hown : w.ownsRow W0.heap.size 71 1 v ps.length (ps.map ptV)) (hp : Pt.at_ W0 ⟨b, o, .ex k n tx nm ty nv l own nth⟩) (hs : ps.length + (l.length) ≤ 1000000) :
    Calls Try.prog 33 #[v, .iface 67 (.pointer (some ⟨b, o, none⟩))] w (AddSaid w W0.heap.size v (ps ++ kidsP (.ex k n tx nm ty nv l own nth))) := by
  have hk := hp.2; rw [Kd] at hk
  have hl0 := ptsV_len (hk.2.1)
  have R0 := Lib.hid (hk.2.1)
  clear hk
  go_enter Try.func33, Try.ntmps33
  have c0 : w.cell? ⟨b, o + 5, none⟩ = some nv := (hp.below hb).cell 5 rfl
  have H0 := Lib.hid (add_ex w W0.heap.size v (ps) nv l hb.size hown (R0.out.keep (Keep.below hb)) (by omega))
  go_wp2_with fail
  refine (H0.out).mono ?_
  clear H0
  rintro e0 w1 ⟨v1, rfl, ho1, hg1⟩
  have hb1 := grew_below hb hown hg1
  clear c0
  go_wp2_with fail
  go_ret
  exact said_mk ho1 (hg1) (by simp [kidsP])
set_option maxRecDepth 100000 in
set_option maxHeartbeats 2000000 in
theorem within_st (W0 w : World) (v : Value) (ps : List Pt) (b o : Nat) (k n : Int) (ty nm : ByteArray) (ve va vb vc : Value) (e a b' c : List Nd) (nth : Int) (hb : Below W0.heap.size W0 w)
    (hown : w.ownsRow W0.heap.size 71 1 v ps.length (ps.map ptV)) (hp : Pt.at_ W0 ⟨b, o, .st k n ty nm ve va vb vc e a b' c nth⟩) (hs : ps.length + (e.length + a.length + b'.length + c.length) ≤ 1000000) :
    Calls Try.prog 33 #[v, .iface 75 (.pointer (some ⟨b, o, none⟩))] w (AddSaid w W0.heap.size v (ps ++ kidsP (.st k n ty nm ve va vb vc e a b' c nth))) := by
  have hk := hp.2; rw [Kd] at hk
  have hl0 := ptsV_len (hk.2.1.1)
  have R0 := Lib.hid (hk.2.1.1)
  have hl1 := ptsV_len (hk.2.2.1.1)
  have R1 := Lib.hid (hk.2.2.1.1)
  have hl2 := ptsV_len (hk.2.2.2.1.1)
  have R2 := Lib.hid (hk.2.2.2.1.1)
  have hl3 := ptsV_len (hk.2.2.2.2.1)
  have R3 := Lib.hid (hk.2.2.2.2.1)
  clear hk
  go_enter Try.func33, Try.ntmps33
  have c0 : w.cell? ⟨b, o + 4, none⟩ = some ve := (hp.below hb).cell 4 rfl
  have H0 := Lib.hid (add_ex w W0.heap.size v (ps) ve e hb.size hown (R0.out.keep (Keep.below hb)) (by omega))
  go_wp2_with fail
  refine (H0.out).mono ?_
  clear H0
  rintro e0 w1 ⟨v1, rfl, ho1, hg1⟩
  have hb1 := grew_below hb hown hg1
  clear c0
  have c1 : w1.cell? ⟨b, o + 5, none⟩ = some va := (hp.below hb1).cell 5 rfl
  have H1 := Lib.hid (add_st w1 W0.heap.size v1 (ps ++ ptsV .ex ve e) va a hb1.size ho1 (R1.out.keep (Keep.below hb1)) (by simp only [List.length_append]; omega))
  go_wp2_with fail
  refine (H1.out).mono ?_
  clear H1
  rintro e1 w2 ⟨v2, rfl, ho2, hg2⟩
  have hb2 := grew_below hb1 ho1 hg2
  clear c1
  have c2 : w2.cell? ⟨b, o + 6, none⟩ = some vb := (hp.below hb2).cell 6 rfl
  have H2 := Lib.hid (add_st w2 W0.heap.size v2 (ps ++ ptsV .ex ve e ++ ptsV .st va a) vb b' hb2.size ho2 (R2.out.keep (Keep.below hb2)) (by simp only [List.length_append]; omega))
  go_wp2_with fail
  refine (H2.out).mono ?_
  clear H2
  rintro e2 w3 ⟨v3, rfl, ho3, hg3⟩
  have hb3 := grew_below hb2 ho2 hg3
  clear c2
  have c3 : w3.cell? ⟨b, o + 7, none⟩ = some vc := (hp.below hb3).cell 7 rfl
  have H3 := Lib.hid (add_st w3 W0.heap.size v3 (ps ++ ptsV .ex ve e ++ ptsV .st va a ++ ptsV .st vb b') vc c hb3.size ho3 (R3.out.keep (Keep.below hb3)) (by simp only [List.length_append]; omega))
  go_wp2_with fail
  refine (H3.out).mono ?_
  clear H3
  rintro e3 w4 ⟨v4, rfl, ho4, hg4⟩
  have hb4 := grew_below hb3 ho3 hg4
  clear c3
  go_wp2_with fail
  go_ret
  exact said_mk ho4 ((((hg1).trans hg2).trans hg3).trans hg4) (by simp [kidsP])
set_option maxRecDepth 100000 in
set_option maxHeartbeats 2000000 in
theorem within_mt (W0 w : World) (v : Value) (ps : List Pt) (b o : Nat) (s c : Bool) (ty nm : ByteArray) (vp : Value) (qs : List (ByteArray × ByteArray)) (nv : Value) (l : List Nd) (hb : Below W0.heap.size W0 w)
    (hown : w.ownsRow W0.heap.size 71 1 v ps.length (ps.map ptV)) (hp : Pt.at_ W0 ⟨b, o, .mt s c ty nm vp qs nv l⟩) (hs : ps.length + (l.length) ≤ 1000000) :
    Calls Try.prog 33 #[v, .iface 78 (.pointer (some ⟨b, o, none⟩))] w (AddSaid w W0.heap.size v (ps ++ kidsP (.mt s c ty nm vp qs nv l))) := by
  have hk := hp.2; rw [Kd] at hk
  have hl0 := ptsV_len (hk.2.2.1)
  have R0 := Lib.hid (hk.2.2.1)
  clear hk
  go_enter Try.func33, Try.ntmps33
  have c0 : w.cell? ⟨b, o + 5, none⟩ = some nv := (hp.below hb).cell 5 rfl
  have H0 := Lib.hid (add_st w W0.heap.size v (ps) nv l hb.size hown (R0.out.keep (Keep.below hb)) (by omega))
  go_wp2_with fail
  refine (H0.out).mono ?_
  clear H0
  rintro e0 w1 ⟨v1, rfl, ho1, hg1⟩
  have hb1 := grew_below hb hown hg1
  clear c0
  go_wp2_with fail
  go_ret
  exact said_mk ho1 (hg1) (by simp [kidsP])
set_option maxRecDepth 100000 in
set_option maxHeartbeats 2000000 in
theorem within_fd (W0 w : World) (v : Value) (ps : List Pt) (b o : Nat) (s : Bool) (ty nm : ByteArray) (nv : Value) (l : List Nd) (hb : Below W0.heap.size W0 w)
    (hown : w.ownsRow W0.heap.size 71 1 v ps.length (ps.map ptV)) (hp : Pt.at_ W0 ⟨b, o, .fd s ty nm nv l⟩) (hs : ps.length + (l.length) ≤ 1000000) :
    Calls Try.prog 33 #[v, .iface 80 (.pointer (some ⟨b, o, none⟩))] w (AddSaid w W0.heap.size v (ps ++ kidsP (.fd s ty nm nv l))) := by
  have hk := hp.2; rw [Kd] at hk
  have hl0 := ptsV_len (hk.2.1)
  have R0 := Lib.hid (hk.2.1)
  clear hk
  go_enter Try.func33, Try.ntmps33
  have c0 : w.cell? ⟨b, o + 3, none⟩ = some nv := (hp.below hb).cell 3 rfl
  have H0 := Lib.hid (add_ex w W0.heap.size v (ps) nv l hb.size hown (R0.out.keep (Keep.below hb)) (by omega))
  go_wp2_with fail
  refine (H0.out).mono ?_
  clear H0
  rintro e0 w1 ⟨v1, rfl, ho1, hg1⟩
  have hb1 := grew_below hb hown hg1
  clear c0
  go_wp2_with fail
  go_ret
  exact said_mk ho1 (hg1) (by simp [kidsP])
set_option maxRecDepth 100000 in
set_option maxHeartbeats 2000000 in
theorem within_cl (W0 w : World) (v : Value) (ps : List Pt) (b o : Nat) (nm sp : ByteArray) (vf vm : Value) (f m : List Nd) (hb : Below W0.heap.size W0 w)
    (hown : w.ownsRow W0.heap.size 71 1 v ps.length (ps.map ptV)) (hp : Pt.at_ W0 ⟨b, o, .cl nm sp vf vm f m⟩) (hs : ps.length + (f.length + m.length) ≤ 1000000) :
    Calls Try.prog 33 #[v, .iface 65 (.pointer (some ⟨b, o, none⟩))] w (AddSaid w W0.heap.size v (ps ++ kidsP (.cl nm sp vf vm f m))) := by
  have hk := hp.2; rw [Kd] at hk
  have hl0 := ptsV_len hk.2.1.1
  have R0 := Lib.hid hk.2.1.1
  have R1 := Lib.hid hk.2.2.1
  clear hk
  have c2 : w.cell? ⟨b, o + 2, none⟩ = some vf := (hp.below hb).cell 2 rfl
  have c3 : w.cell? ⟨b, o + 3, none⟩ = some vm := (hp.below hb).cell 3 rfl
  have H1 : Hid (∀ w1 v1, Below W0.heap.size W0 w1 → w1.ownsRow W0.heap.size 71 1 v1 (ps ++ ptsV .fd vf f).length ((ps ++ ptsV .fd vf f).map ptV) → Calls Try.prog 49 #[v1, vm] w1 (AddSaid w1 W0.heap.size v1 (ps ++ ptsV .fd vf f ++ ptsV .mt vm m))) := by
    show ∀ w1 v1, _
    intro w1 v1 h1 h2
    exact add_mt w1 W0.heap.size v1 _ vm m h1.size h2 (R1.out.keep (Keep.below h1)) (by simp only [List.length_append]; omega)
  go_enter Try.func33, Try.ntmps33
  go_wp2_with fail
  go_region_with (first | (go_at_call 50; refine (add_fd _ W0.heap.size v ps vf f hb.drew.size hown.drew (R0.out.keep (Keep.below hb.drew)) (by omega)).mono ?_; rintro e1 w1 ⟨v1, rfl, ho1, hg1⟩; have hb1 := grew_below hb.drew hown.drew hg1; have c3b : w1.cell? ⟨b, o + 3, none⟩ = some vm := (hp.below hb1).cell 3 rfl) | (go_at_call 49; refine (H1.out _ _ hb1 ho1).mono ?_; clear H1; rintro e2 w2 ⟨v2, rfl, ho2, hg2⟩))
  all_goals go_wp2_with fail
  all_goals go_ret
  all_goals exact said_mk ho2 (hg1.of_drew.trans hg2) (by simp [kidsP])
theorem within_any (W0 w : World) (v : Value) (ps : List Pt) (p : Pt) (hb : Below W0.heap.size W0 w) (hown : w.ownsRow W0.heap.size 71 1 v ps.length (ps.map ptV)) (hp : p.at_ W0) (hs : ps.length + (kidsP p.x).length ≤ 1000000) :
    Calls Try.prog 33 #[v, ptV p] w (AddSaid w W0.heap.size v (ps ++ kidsP p.x)) := by
  obtain ⟨b, o, x⟩ := p
  have hk := hp.2
  cases x <;> rw [Kd] at hk <;> simp only [kidsP, List.length_append] at hs
  · exact within_ex W0 w v ps b o _ _ _ _ _ _ _ _ _ hb hown hp (by rw [← ptsV_len hk.2.1]; omega)
  · exact within_st W0 w v ps b o _ _ _ _ _ _ _ _ _ _ _ _ _ hb hown hp (by rw [← ptsV_len hk.2.1.1, ← ptsV_len hk.2.2.1.1, ← ptsV_len hk.2.2.2.1.1, ← ptsV_len hk.2.2.2.2.1]; omega)
  · exact within_fd W0 w v ps b o _ _ _ _ _ hb hown hp (by rw [← ptsV_len hk.2.1]; omega)
  · exact within_mt W0 w v ps b o _ _ _ _ _ _ _ _ hb hown hp (by rw [← ptsV_len hk.2.2.1]; omega)
  · exact within_cl W0 w v ps b o _ _ _ _ _ _ hb hown hp (by rw [← ptsV_len hk.2.1.1, ← ptsV_len hk.2.2.1]; omega)
end Go.Proofs.Ytlpddmncgmhkeaa
