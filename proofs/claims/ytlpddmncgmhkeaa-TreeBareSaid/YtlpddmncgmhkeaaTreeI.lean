/- Contracts of tree.SameExpr, SameStmts, Same. -/
import Derived.Test.YtlpddmncgmhkeaaTreeH
set_option linter.unusedSimpArgs false
set_option linter.unusedVariables false
namespace Go.Proofs.Ytlpddmncgmhkeaa
open Go.RowKit
theorem Two.nil (W0 : World) : Two W0 W0 (.slice none 0 0) [] (.slice none 0 0) [] :=
  ⟨by simpa using World.ownsRow_nil W0 W0.heap.size 71 1, by simpa using World.ownsRow_nil W0 W0.heap.size 71 1, Below.refl _ _, .inl rfl⟩
theorem at_new2 {w : World} {x : Nd} {T T' : TypeId} {cs cs' : Array Value} (hk : Kd w x) (hc : cs.toList = cellsN x) : Pt.at_ ((w.alloc (.cells cs T)).alloc (.cells cs' T')) ⟨w.heap.size, 0, x⟩ :=
  (at_new hk hc).keep (Keep.below ((Below.refl _ _).alloc (Nat.le_refl _) _))
theorem keep_alloc (w : World) (o : Obj) : Keep w (w.alloc o) := Keep.below ((Below.refl _ _).alloc (Nat.le_refl _) _)
theorem own_mono {w : World} {base base' e sz n : Nat} {v : Value} {xs : List Value} (h : w.ownsRow base e sz v n xs) (hb : base' ≤ base) : w.ownsRow base' e sz v n xs :=
  ⟨h.1, h.2.imp id fun ⟨g, cap, cur, a, b, c⟩ => ⟨g, cap, cur, a, Nat.le_trans hb b, c⟩⟩
theorem same_two (w : World) (T : TypeId) (cs cs' : Array Value) (x y : Nd) (r : Bool) (hk : Kd w x) (hk' : Kd w y) (hc : cs.toList = cellsN x) (hc' : cs'.toList = cellsN y) (hs : x.size ≤ 1000000) (hs' : y.size ≤ 1000000) (hr : sameL [x] [y] = r) (u u' : Value)
    (hu : u = .iface x.tag.ptr (.pointer (some ⟨w.heap.size, 0, none⟩))) (hu' : u' = .iface y.tag.ptr (.pointer (some ⟨w.heap.size + 1, 0, none⟩))) :
    Calls Try.prog 26 #[.slice (some ⟨w.heap.size + 2, 0, none⟩) 1 1, .slice (some ⟨w.heap.size + 3, 0, none⟩) 1 1] ((((w.alloc (.cells cs T)).alloc (.cells cs' T)).alloc (.cells #[u] 71)).alloc (.cells #[u'] 71)) fun e w' => e = .returned (.bool r) ∧ Below w.heap.size w w' := by
  have p1 := at_new2 (T := T) (T' := T) (cs' := cs') hk hc
  have p2 := at_new (T := T) (Kd.keep (keep_alloc w (.cells cs T)) _ hk') hc'
  have hb : Below w.heap.size w ((w.alloc (.cells cs T)).alloc (.cells cs' T)) := ((Below.refl w.heap.size w).alloc (Nat.le_refl _) _).alloc (by simp) _
  have hz : ((w.alloc (.cells cs T)).alloc (.cells cs' T)).heap.size = w.heap.size + 2 := by simp
  have hz1 : (w.alloc (.cells cs T)).heap.size = w.heap.size + 1 := by simp
  rw [hz1] at p2
  generalize (w.alloc (.cells cs T)).alloc (.cells cs' T) = W0 at p1 p2 hb hz ⊢
  have o1 := own_one W0 (w.heap.size + 2) ⟨w.heap.size, 0, x⟩ u hz.symm hu
  have hz3 : (W0.alloc (.cells #[u] 71)).heap.size = w.heap.size + 3 := by simp [hz]
  have o2 := own_mono (base' := W0.heap.size) (own_one (W0.alloc (.cells #[u] 71)) (w.heap.size + 3) ⟨w.heap.size + 1, 0, y⟩ u' hz3.symm hu') (by simp)
  have hT : Two W0 ((W0.alloc (.cells #[u] 71)).alloc (.cells #[u'] 71)) _ _ _ _ := ⟨o1.alloc _, o2, ((Below.refl _ W0).alloc (Nat.le_refl _) _).alloc (by simp) _, .inr (by simp [Value.ownBlock])⟩
  refine (same_any W0 _ _ _ _ _ hT (by intro p hp; simp at hp; subst hp; exact p1) (by intro p hp; simp at hp; subst hp; exact p2) (by rw [sizeP_one]; exact hs) (by rw [sizeP_one]; exact hs')).mono ?_
  rintro e w' ⟨rfl, hb'⟩
  exact ⟨by rw [← hr]; rfl, hb.trans (hb'.mono (by omega))⟩
theorem same_expr_any (w : World) (k n : Int) (tx nm ty : ByteArray) (nv : Value) (l : List Nd) (own : ByteArray) (nth : Int) (k' n' : Int) (tx' nm' ty' : ByteArray) (nv' : Value) (l' : List Nd) (own' : ByteArray) (nth' : Int)
    (hk : Kd w (.ex k n tx nm ty nv l own nth)) (hk' : Kd w (.ex k' n' tx' nm' ty' nv' l' own' nth')) (hs : (Nd.ex k n tx nm ty nv l own nth).size ≤ 1000000) (hs' : (Nd.ex k' n' tx' nm' ty' nv' l' own' nth').size ≤ 1000000)
    (r : Bool) (hr : sameL [.ex k n tx nm ty nv l own nth] [.ex k' n' tx' nm' ty' nv' l' own' nth'] = r) :
    Calls Try.prog 17 #[.agg #[.int .i64 k, .int .i32 n, .string tx, .string nm, .string ty, nv, .string own, .int .i64 nth], .agg #[.int .i64 k', .int .i32 n', .string tx', .string nm', .string ty', nv', .string own', .int .i64 nth']] w fun e w' => e = .returned (.bool r) ∧ Below w.heap.size w w' := by
  have HS := Lib.hid (same_two w 41 #[.int .i64 k, .int .i32 n, .string tx, .string nm, .string ty, nv, .string own, .int .i64 nth] #[.int .i64 k', .int .i32 n', .string tx', .string nm', .string ty', nv', .string own', .int .i64 nth'] _ _ r hk hk' rfl rfl hs hs' hr _ _ rfl rfl)
  clear hk hk' hs hs' hr
  go_enter Try.func17, Try.ntmps17
  go_wp2_with (go_at_call 26; refine HS.out.mono ?_; clear HS; rintro e w1 ⟨rfl, hb⟩)
  go_ret
  exact ⟨rfl, hb⟩
theorem same_stmts_any (w : World) (v v' : Value) (l l' : List Nd) (hr : Rw w .st v l) (hk : KdL w l) (hr' : Rw w .st v' l') (hk' : KdL w l') (hs : sizeL l ≤ 1000000) (hs' : sizeL l' ≤ 1000000) (r : Bool) (hq : sameL l l' = r) :
    Calls Try.prog 18 #[v, v'] w fun e w' => e = .returned (.bool r) ∧ Below w.heap.size w w' := by
  have hl := len_sizeL l; have hl' := len_sizeL l'
  have hx : sizeP (ptsV .st v l) = sizeL l := by rw [sizeP, ptsV_x hr]
  have hx' : sizeP (ptsV .st v' l') = sizeL l' := by rw [sizeP, ptsV_x hr']
  have T0 := Two.nil w
  have HT0 := Lib.hid T0
  have HA := Lib.hid (add_st w w.heap.size (.slice none 0 0) [] v l (Nat.le_refl _) T0.own1 hr (by simp; omega))
  have HB : Hid (∀ w1 v1 q1, Two w w1 v1 q1 (.slice none 0 0) [] → Calls Try.prog 30 #[.slice none 0 0, v'] w1 (AddSaid w1 w.heap.size (.slice none 0 0) ([] ++ ptsV .st v' l'))) := by
    show ∀ w1 v1 q1, _
    intro w1 v1 q1 h
    exact add_st w1 w.heap.size (.slice none 0 0) [] v' l' h.bel.size h.own2 (hr'.keep (Keep.below h.bel)) (by simp; omega)
  have HC : Hid (∀ w1 v1 v2, Two w w1 v1 (ptsV .st v l) v2 (ptsV .st v' l') → Calls Try.prog 26 #[v1, v2] w1 fun e w' => e = .returned (.bool r) ∧ Below w.heap.size w w') := by
    show ∀ w1 v1 v2, _
    intro w1 v1 v2 h
    have := same_any w w1 v1 v2 _ _ h (ptsV_at hr hk) (ptsV_at hr' hk') (by omega) (by omega)
    rw [sameP, ptsV_x hr, ptsV_x hr', hq] at this
    exact this
  clear hr hk hr' hk' hs hs' hq hl hl' hx hx' T0
  go_enter Try.func18, Try.ntmps18
  go_wp2_with fail
  refine HA.out.mono ?_
  rintro e w1 ⟨v1, rfl, ho1, hg1⟩
  have T1 := Lib.hid (HT0.out.left ho1 hg1); clear HA ho1 hg1
  go_wp2_with fail
  refine (HB.out _ _ _ T1.out).mono ?_
  rintro e w2 ⟨v2, rfl, ho2, hg2⟩
  have T2 := Lib.hid (T1.out.right ho2 hg2); clear HB ho2 hg2
  go_wp2_with fail
  refine (HC.out _ _ _ T2.out).mono ?_
  rintro e w3 ⟨rfl, hb⟩
  go_wp2_with fail
  go_ret
  exact ⟨rfl, hb⟩
set_option maxRecDepth 100000 in
set_option maxHeartbeats 2000000 in
theorem same_prog_any (w : World) (v v' : Value) (l l' : List Nd) (hr : Rw w .cl v l) (hk : KdL w l) (hr' : Rw w .cl v' l') (hk' : KdL w l') (hs : sizeL l ≤ 1000000) (hs' : sizeL l' ≤ 1000000) (r : Bool) (hq : sameL l l' = r) :
    Calls Try.prog 9 #[.agg #[v], .agg #[v']] w fun e w' => e = .returned (.bool r) ∧ Below w.heap.size w w' := by
  have hl := len_sizeL l; have hl' := len_sizeL l'
  have hx : sizeP (ptsV .cl v l) = sizeL l := by rw [sizeP, ptsV_x hr]
  have hx' : sizeP (ptsV .cl v' l') = sizeL l' := by rw [sizeP, ptsV_x hr']
  have hbel : Below w.heap.size w ((w.alloc (.cells #[v] 24)).alloc (.cells #[v'] 24)) := ((Below.refl w.heap.size w).alloc (Nat.le_refl _) _).alloc (by simp) _
  have c0 : ((w.alloc (.cells #[v] 24)).alloc (.cells #[v'] 24)).cell? ⟨w.heap.size, 0, none⟩ = some v := by simp [go_sem]
  have c1 : ((w.alloc (.cells #[v] 24)).alloc (.cells #[v'] 24)).cell? ⟨w.heap.size + 1, 0, none⟩ = some v' := by simp [go_sem]
  have K := Keep.below hbel
  go_enter Try.func9, Try.ntmps9
  go_wp2_with fail
  generalize (w.alloc (.cells #[v] 24)).alloc (.cells #[v'] 24) = W0 at hbel c0 c1 K ⊢
  have T0 := (Two.nil W0).draws 1
  have hrW := hr.keep K
  have hrW' := hr'.keep K
  have HT0 := Lib.hid T0
  have HA : Hid (Calls Try.prog 23 #[.slice none 0 0, v] (W0.drewN 1) (AddSaid (W0.drewN 1) W0.heap.size (.slice none 0 0) ([] ++ ptsV .cl v l))) := add_cl (W0.drewN 1) W0.heap.size (.slice none 0 0) [] v l (Nat.le_refl _) T0.own1 (Rw.keep (w := W0) (w' := W0.drewN 1) (fun _ _ h => h) hrW) (by simp; omega)
  have HB : Hid (∀ w1 v1 q1, Two W0 w1 v1 q1 (.slice none 0 0) [] → Calls Try.prog 23 #[.slice none 0 0, v'] w1 (AddSaid w1 W0.heap.size (.slice none 0 0) ([] ++ ptsV .cl v' l'))) := by
    show ∀ w1 v1 q1, _
    intro w1 v1 q1 h
    exact add_cl w1 W0.heap.size (.slice none 0 0) [] v' l' h.bel.size h.own2 (hrW'.keep (Keep.below h.bel)) (by simp; omega)
  have HC : Hid (∀ w1 v1 v2, Two W0 w1 v1 (ptsV .cl v l) v2 (ptsV .cl v' l') → Calls Try.prog 26 #[v1, v2] w1 fun e w' => e = .returned (.bool r) ∧ Below w.heap.size w w') := by
    show ∀ w1 v1 v2, _
    intro w1 v1 v2 h
    have := same_any W0 w1 v1 v2 _ _ h (ptsV_at hrW (KdL.keep K _ hk)) (ptsV_at hrW' (KdL.keep K _ hk')) (by omega) (by omega)
    rw [sameP, ptsV_x hr, ptsV_x hr', hq] at this
    exact this.mono fun e w' h => ⟨h.1, hbel.trans (h.2.mono hbel.size)⟩
  have hcell : ∀ w1 v1 q1 v2 q2, Two W0 w1 v1 q1 v2 q2 → w1.cell? ⟨w.heap.size + 1, 0, none⟩ = some v' := fun w1 v1 q1 v2 q2 h => (Keep.below h.bel) _ _ c1
  have HCE := Lib.hid hcell
  clear hr hk hr' hk' hs hs' hq hl hl' hx hx' T0 hbel K hrW hrW' hcell
  go_region_with (first | (go_at_call_of 23 v; refine HA.out.mono ?_; clear HA; rintro e w1 ⟨v1, rfl, ho1, hg1⟩; have T1 := Lib.hid (HT0.out.left ho1 hg1); have c2 := HCE.out _ _ _ _ _ T1.out; clear ho1 hg1) | (go_at_call_of 23 v'; refine (HB.out _ _ _ T1.out).mono ?_; clear HB; rintro e w2 ⟨v2, rfl, ho2, hg2⟩; have T2 := Lib.hid (T1.out.right ho2 hg2); clear ho2 hg2) | (go_at_call 26; refine (HC.out _ _ _ T2.out).mono ?_; rintro e w3 ⟨rfl, hb⟩))
  all_goals go_wp2_with fail
  all_goals go_ret
  all_goals exact ⟨rfl, hb⟩
end Go.Proofs.Ytlpddmncgmhkeaa
