/- Parts of the proof: Dpt. -/
import Derived.Test.YtipcoglddfgopaaGreatDoorP6
import Derived.Test.YtipcoglddfgopaaGreatDoorBareQ
import Derived.Test.YtipcoglddfgopaaGreatDoorP10
set_option maxHeartbeats 2000000
set_option maxRecDepth 100000
set_option linter.unusedSimpArgs false
set_option linter.unusedVariables false
namespace Go.Proofs.YtipcoglddfgopaaGreatDoor
open Go.RowKit
mutual
def depthN : Nd → Nat
 | .ex _ _ _ _ _ _ l _ _ => depthL l + 1
 | .st .. => 1 | .fd .. => 1 | .mt .. => 1 | .cl .. => 1
def depthL : List Nd → Nat
 | [] => 0
 | x :: l => max (depthN x) (depthL l)
end
theorem depthL_append (a b : List Nd) : depthL (a ++ b) = max (depthL a) (depthL b) := by
 induction a with
 | nil => simp [depthL]
 | cons x a ih => simp only [List.cons_append, depthL, ih]; omega
theorem depth_take {l : List Nd} {j : Nat} {x : Nd} (h : l[j]? = some x) : depthL (l.take (j + 1)) = max (depthL (l.take j)) (depthN x) := by
 rw [List.take_add_one, h, depthL_append]; simp [depthL]
theorem depth_size : ∀ (n : Nat) (x : Nd) , x.size ≤ n → depthN x ≤ x.size
 | 0, x, h => by have := size_pos x; omega
 | n + 1, x, h => by
   have hl : ∀ l : List Nd, sizeL l ≤ n → depthL l ≤ sizeL l := by
     intro l
     induction l with
     | nil => intro _; simp [depthL]
     | cons y l ih =>
       intro hh
       simp only [sizeL] at hh
       have h1 := depth_size n y (by omega)
       have h2 := ih (by omega)
       simp only [depthL, sizeL]; omega
   cases x with
   | ex k n' tx nm ty v l own nth =>
     simp only [Nd.size] at h ⊢
     simp only [depthN]
     have := hl l (by omega)
     omega
   | _ => simp only [depthN, Nd.size]; omega
def DepthOf (s : Nat) : Prop := ∀ (w : World) (k n : Int) (tx nm ty : ByteArray) (nv : Value) (l : List Nd) (own : ByteArray) (nth : Int), Kd w (.ex k n tx nm ty nv l own nth) → (Nd.ex k n tx nm ty nv l own nth).size ≤ s →
 Calls Tryz.prog 23 #[.agg #[.int .i64 k, .int .i32 n, .string tx, .string nm, .string ty, nv, .string own, .int .i64 nth]] w fun e w' => e = .returned (.int .i64 (depthN (.ex k n tx nm ty nv l own nth))) ∧ Below w.heap.size w w'
theorem depth_row : ∀ s, s ≤ 1000000 → DepthOf s := by
 intro s
 induction s using Nat.strongRecOn with
 | ind s ih =>
   intro hs w k n tx nm ty nv l own nth hk hle
   have hsz : (Nd.ex k n tx nm ty nv l own nth).size = 1 + sizeL l := by simp [Nd.size]
   have hdn : depthN (.ex k n tx nm ty nv l own nth) = depthL l + 1 := by simp [depthN]
   have hdb : depthL l + 1 ≤ 1000001 := by have := depth_size _ _ (Nat.le_refl (Nd.ex k n tx nm ty nv l own nth).size); omega
   rw [hsz] at hle
   rw [hdn]
   rw [Kd] at hk
   obtain ⟨A, cap, rfl⟩ := hk.2.1.form
   obtain ⟨m, hm⟩ : ∃ m, l.length = m := ⟨_, rfl⟩
   have hml : m ≤ sizeL l := by rw [← hm]; exact len_sizeL l
   obtain ⟨d, hd⟩ : ∃ d, depthL l = d := ⟨_, rfl⟩
   rw [hd] at hdb ⊢
   have HDD := Lib.hid hd
   have HR := Lib.hid hk.2.1; have HK := Lib.hid hk.2.2; have HLN := Lib.hid hm
   rw [hm] at HR ⊢
   clear hk hsz hm hdn hd
   go_enter Tryz.func23, Tryz.ntmps23
   go_wp2_with fail
   refine gen_world (fun W => Bx W w.heap.size #[.int .i64 k, .int .i32 n, .string tx, .string nm, .string ty, .slice A m cap, .string own, .int .i64 nth] 42 ∧ Below w.heap.size w W) ?_ ?_
   · exact ⟨Bx.new _ _ _, (Below.refl _ w).alloc (Nat.le_refl _) _⟩
   · rintro W ⟨hx, hW⟩
     have HX := Lib.hid hx; have HW := Lib.hid hW
     have hlt := hx.lt
     clear hx hW
     go_loopw [3, 9] (fun v3 v9 wr => ∃ j a : Nat, v9 = .int .i64 j ∧ j ≤ m ∧ v3 = .int .i64 a ∧ a = depthL (l.take j) ∧ Below (w.heap.size + 1) W wr) (fun v3 v9 wr => m - (intOf v9).toNat)
     case atStart => exact ⟨0, 0, rfl, Nat.zero_le _, rfl, by simp [depthL], Below.refl _ _⟩
     case round =>
       obtain ⟨j, a, rfl, hjm, rfl, ha, hB⟩ := hrel
       have HA := Lib.hid ha
       clear ha
       have hBw : Below w.heap.size w wr := HW.out.trans (hB.mono (Nat.le_succ _))
       have hWs := HW.out.size
       have hBs := hB.size
       have K := Keep.below hBw
       by_cases hlt2 : j < m
       · obtain ⟨b, o, x, rfl, hx, hxt, hc⟩ := (HR.out.keep K).get hlt2
         have hxk := KdL.mem_get (KdL.keep K _ HK.out) hx
         cases x <;> first | (simp [Nd.tag] at hxt; done) | skip
         rename_i xk xn xtx xnm xty xv xl xown xnth
         have c0 := hc 0 _ rfl; have c1 := hc 1 _ rfl; have c2 := hc 2 _ rfl; have c3 := hc 3 _ rfl; have c4 := hc 4 _ rfl; have c5 := hc 5 _ rfl; have c6 := hc 6 _ rfl; have c7 := hc 7 _ rfl
         simp only [Tg.sz, Nat.add_zero] at c0 c1 c2 c3 c4 c5 c6 c7
         have hz := sizeL_take_succ hx
         have hle2 := sizeL_take_le l (j + 1)
         have hdt := depth_take hx
         have HX1 : Hid (∀ w', Below wr.heap.size wr w' → Calls Tryz.prog 23 #[.agg #[.int .i64 xk, .int .i32 xn, .string xtx, .string xnm, .string xty, xv, .string xown, .int .i64 xnth]] w' fun e w'' => e = .returned (.int .i64 (depthN (.ex xk xn xtx xnm xty xv xl xown xnth))) ∧ Below w'.heap.size w' w'') := by
           show ∀ w', _
           intro w' hb
           exact ih (Nd.ex xk xn xtx xnm xty xv xl xown xnth).size (by omega) (by omega) w' xk xn xtx xnm xty xv xl xown xnth (Kd.keep (Keep.below hb) _ hxk) (Nat.le_refl _)
         obtain ⟨q, hq⟩ : ∃ q, depthN (.ex xk xn xtx xnm xty xv xl xown xnth) = q := ⟨_, rfl⟩
         rw [hq] at HX1 hdt
         have HZ := Lib.hid hdt
         rw [Kd] at hxk
         obtain ⟨xA, xcap, rfl⟩ := hxk.2.1.form
         clear hc hxk hx hxt K ih hq hz hle2 hdt
         go_wp2_with (go_at_call 23; refine (HX1.out _ (by first | exact Below.refl _ _ | exact (Below.refl _ _).alloc (Nat.le_refl _) _)).mono ?_; clear HX1; rintro e w1 ⟨rfl, hb⟩; have HB1 := Lib.hid hb; clear hb)
         have hb2 : Below (w.heap.size + 1) W w1 := by
           have h1 := hB.alloc (by omega) (.cells #[.int .i64 xk, .int .i32 xn, .string xtx, .string xnm, .string xty, .slice xA xl.length xcap, .string xown, .int .i64 xnth] 42)
           exact h1.trans (HB1.out.mono (by simp; omega))
         refine ⟨⟨j + 1, max a q, by simp, by omega, ?_, by rw [HZ.out, ← HA.out], hb2⟩, by simp [intOf]; omega⟩
         congr 1; omega
       · have hkl : l.take j = l := List.take_of_length_le (by rw [HLN.out]; omega)
         have had : a = d := by rw [HA.out, hkl, HDD.out]
         subst had
         have HD := Lib.hid hBw
         clear ih hkl K hB hBw
         go_wp2_with fail
         go_ret
         exact ⟨by simp, HD.out⟩
end Go.Proofs.YtipcoglddfgopaaGreatDoor
