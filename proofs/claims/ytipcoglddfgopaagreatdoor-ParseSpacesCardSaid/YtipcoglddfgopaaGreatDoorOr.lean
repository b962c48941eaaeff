/- Parts of the proof: Or. -/
import Derived.Test.YtipcoglddfgopaaGreatDoorP5
import Derived.Test.YtipcoglddfgopaaGreatDoorBxN
import Derived.Deep.Cut
import Derived.Laws.StructEq
set_option maxHeartbeats 4000000
set_option maxRecDepth 100000
set_option linter.unusedSimpArgs false
set_option linter.unusedVariables false
namespace Go.Proofs.YtipcoglddfgopaaGreatDoor
open Go.RowKit
def orF (a b c d : Int) : Int × Int := if a = 0 ∧ b = 0 then (c, d) else (a, b)
theorem or_end {w wr : World} {n : Nat} {T : TypeId} {x0 x1 : Value} (h : Bx wr n #[x0, x1] T) (hb : Below n w wr) (p q : Value) (O : Obj) :
   (((wr.setCell ⟨n, 0, none⟩ p).setCell ⟨n, 1, none⟩ q).alloc O).cell? ⟨n, 0, none⟩ = some p ∧ (((wr.setCell ⟨n, 0, none⟩ p).setCell ⟨n, 1, none⟩ q).alloc O).cell? ⟨n, 1, none⟩ = some q ∧ Below n w (((wr.setCell ⟨n, 0, none⟩ p).setCell ⟨n, 1, none⟩ q).alloc O) := by
 have h2 := h.to_2 p q
 have h3 := h2.next ((Below.refl _ _).alloc (Nat.le_refl _) O)
 exact ⟨h3.all_2.1, h3.all_2.2, ((hb.setCell (Nat.le_refl _) _).setCell (Nat.le_refl _) _).alloc (Nat.le_trans (Nat.le_of_lt h2.lt) (Nat.le_refl _)) O⟩
theorem or_end' {w wr : World} {n : Nat} {T : TypeId} {x0 x1 : Value} (h : Bx wr n #[x0, x1] T) (hb : Below n w wr) (p q : Value) :
   ((wr.setCell ⟨n, 0, none⟩ p).setCell ⟨n, 1, none⟩ q).cell? ⟨n, 0, none⟩ = some p ∧ ((wr.setCell ⟨n, 0, none⟩ p).setCell ⟨n, 1, none⟩ q).cell? ⟨n, 1, none⟩ = some q ∧ Below n w ((wr.setCell ⟨n, 0, none⟩ p).setCell ⟨n, 1, none⟩ q) := by
 have h2 := h.to_2 p q
 exact ⟨h2.all_2.1, h2.all_2.2, (hb.setCell (Nat.le_refl _) _).setCell (Nat.le_refl _) _⟩
theorem or_any (w : World) (g : Nat) (a b c d : Int) (x y : Int) (hr : orF a b c d = (x, y)) (k0 : w.cell? ⟨g, 0, none⟩ = some (.int .i64 a)) (k1 : w.cell? ⟨g, 1, none⟩ = some (.int .i64 b)) (k2 : w.cell? ⟨g, 2, none⟩ = some (.int .i64 c)) (k3 : w.cell? ⟨g, 3, none⟩ = some (.int .i64 d)) :
   Calls Tryz.prog 16 #[.slice (some ⟨g, 0, none⟩) 2 2] w fun e w' => e = .returned (.agg #[.int .i64 x, .int .i64 y]) ∧ Below w.heap.size w w' := by
 have hlt := World.block_lt_of_cell? w (a := ⟨g, 0, none⟩) k0
 simp only at hlt
 obtain ⟨Wa, ha⟩ : ∃ W, w.alloc (.cells #[.int .i64 0, .int .i64 0] 57) = W := ⟨_, rfl⟩
 have ka : Below w.heap.size w Wa := by rw [← ha]; exact (Below.refl _ _).alloc (Nat.le_refl _) _
 have xa : Bx Wa w.heap.size #[.int .i64 0, .int .i64 0] 57 := by rw [← ha]; exact Bx.new _ _ _
 have sa : Wa.heap.size = w.heap.size + 1 := by rw [← ha]; simp
 obtain ⟨Wb, hb⟩ : ∃ W, Wa.alloc (.cells #[.int .i64 0, .int .i64 0] 57) = W := ⟨_, rfl⟩
 have kb : Below Wa.heap.size Wa Wb := by rw [← hb]; exact (Below.refl _ _).alloc (Nat.le_refl _) _
 have xb : Bx Wb (w.heap.size + 1) #[.int .i64 0, .int .i64 0] 57 := by rw [← hb, ← sa]; exact Bx.new _ _ _
 have HB0 : Hid (Below w.heap.size w Wb) := Lib.hid (ka.trans (kb.mono ka.size))
 have HXA := Lib.hid (xa.next kb)
 have HXB := Lib.hid xb
 have HK : Hid (∀ (o : Nat) (u : Value), w.cell? ⟨g, o, none⟩ = some u → Wb.cell? ⟨g, o, none⟩ = some u) := Lib.hid fun o u hu => Keep.below HB0.out _ _ hu
 have sb : Wb.heap.size = w.heap.size + 2 := by rw [← hb]; simp [sa]
 clear ka kb xa xb
 have q0 := HK.out 0 _ k0; have q1 := HK.out 1 _ k1; have q2 := HK.out 2 _ k2; have q3 := HK.out 3 _ k3
 have hgb : g < Wb.heap.size := by omega
 have z0 := HXB.out.cell 0; have z1 := HXB.out.cell 1
 simp only [List.getElem?_toArray, List.getElem?_cons_succ, List.getElem?_cons_zero] at z0 z1
 have HR := Lib.hid hr
 clear hr
 subst ha hb
 go_enter Tryz.func16, Tryz.ntmps16
 go_wp2_with fail
 go_loopw [8] (fun v8 wr => ∃ i : Nat, v8 = .int .i64 i ∧ i ≤ 2 ∧ Below (w.heap.size + 2) ((w.alloc (.cells #[.int .i64 0, .int .i64 0] 57)).alloc (.cells #[.int .i64 0, .int .i64 0] 57)) wr ∧ (1 ≤ i → a = 0 ∧ b = 0) ∧ (i = 2 → c = 0 ∧ d = 0)) (fun v8 wr => 2 - (intOf v8).toNat)
 case atStart => exact ⟨0, rfl, by omega, Below.refl _ _, by omega, by omega⟩
 case round =>
   obtain ⟨i, rfl, hi, hbr, hA, hC⟩ := hrel
   have hKr : ∀ (k o : Nat) (u : Value), k < w.heap.size + 2 → ((w.alloc (.cells #[.int .i64 0, .int .i64 0] 57)).alloc (.cells #[.int .i64 0, .int .i64 0] 57)).cell? ⟨k, o, none⟩ = some u → wr.cell? ⟨k, o, none⟩ = some u := by
     intro k o u hk hu
     exact (World.cell?_of_block (a := ⟨k, o, none⟩) (hbr.block k hk)).trans hu
   have y0 := hKr _ _ _ (by omega) q0; have y1 := hKr _ _ _ (by omega) q1; have y2 := hKr _ _ _ (by omega) q2; have y3 := hKr _ _ _ (by omega) q3
   have x0 := hKr _ _ _ (by omega) z0; have x1 := hKr _ _ _ (by omega) z1
   have hrb : Bx wr w.heap.size #[.int .i64 0, .int .i64 0] 57 := (hbr.block _ (by omega)).trans HXA.out
   have f0 := hrb.fro 0; have f1 := hrb.fro 1; have r0 := hrb.cell 0; have r1 := hrb.cell 1
   simp only [List.getElem?_toArray, List.getElem?_cons_succ, List.getElem?_cons_zero] at r0 r1
   have hsz := hbr.size
   simp only [sb] at hsz
   have hsr : w.heap.size < wr.heap.size := by omega
   have hsr2 : w.heap.size + 1 < wr.heap.size := by omega
   have hgr : g < wr.heap.size := by omega
   have HBS := Lib.hid hbr
   have HBR := Lib.hid (HB0.out.trans (hbr.mono (by omega)))
   have HRB := Lib.hid hrb
   clear hKr hrb q0 q1 q2 q3 z0 z1 k0 k1 k2 k3 hbr hsz
   have hii : i = 0 ∨ i = 1 ∨ i = 2 := by omega
   rcases hii with rfl | rfl | rfl
   · by_cases ha0 : a = 0
     · by_cases hb0 : b = 0
       · subst ha0 hb0
         go_wp2_with fail
         exact ⟨⟨1, rfl, by omega, HBS.out.alloc (by omega) _, by simp, by omega⟩, by simp [intOf]⟩
       · subst ha0
         have hb' : (b == 0) = false := by simpa using hb0
         have hxy0 : (0 : Int) = x ∧ b = y := by have := HR.out; simpa [orF, hb0] using this
         obtain ⟨hx0, rfl⟩ := hxy0
         subst hx0
         go_wp2_with fail
         obtain ⟨e0, e1, e2⟩ := or_end HRB.out HBR.out (.int .i64 0) (.int .i64 b) (.cells #[.int .i64 0, .int .i64 b] 57)
         (try simp only [Exit.inBlock, Exit.then])
         exact bodyPost_ret (v := .agg #[.int .i64 0, .int .i64 b]) (by simp [results, Tryz.results16, go_sem, e0, e1]) rfl ⟨rfl, e2⟩
     · have ha' : (a == 0) = false := by simpa using ha0
       have hxy0 : a = x ∧ b = y := by have := HR.out; simpa [orF, ha0] using this
       obtain ⟨rfl, rfl⟩ := hxy0
       go_wp2_with fail
       obtain ⟨e0, e1, e2⟩ := or_end HRB.out HBR.out (.int .i64 a) (.int .i64 b) (.cells #[.int .i64 a, .int .i64 b] 57)
       (try simp only [Exit.inBlock, Exit.then])
       exact bodyPost_ret (v := .agg #[.int .i64 a, .int .i64 b]) (by simp [results, Tryz.results16, go_sem, e0, e1]) rfl ⟨rfl, e2⟩
   · obtain ⟨rfl, rfl⟩ := hA (by omega)
     have hxy0 : c = x ∧ d = y := by have := HR.out; simpa [orF] using this
     obtain ⟨rfl, rfl⟩ := hxy0
     by_cases hc0 : c = 0
     · by_cases hd0 : d = 0
       · subst hc0 hd0
         go_wp2_with fail
         exact ⟨⟨2, rfl, by omega, HBS.out.alloc (by omega) _, by simp, by simp⟩, by simp [intOf]⟩
       · subst hc0
         have hb' : (d == 0) = false := by simpa using hd0
         go_wp2_with fail
         obtain ⟨e0, e1, e2⟩ := or_end HRB.out HBR.out (.int .i64 0) (.int .i64 d) (.cells #[.int .i64 0, .int .i64 d] 57)
         (try simp only [Exit.inBlock, Exit.then])
         exact bodyPost_ret (v := .agg #[.int .i64 0, .int .i64 d]) (by simp [results, Tryz.results16, go_sem, e0, e1]) rfl ⟨rfl, e2⟩
     · have ha' : (c == 0) = false := by simpa using hc0
       go_wp2_with fail
       obtain ⟨e0, e1, e2⟩ := or_end HRB.out HBR.out (.int .i64 c) (.int .i64 d) (.cells #[.int .i64 c, .int .i64 d] 57)
       (try simp only [Exit.inBlock, Exit.then])
       exact bodyPost_ret (v := .agg #[.int .i64 c, .int .i64 d]) (by simp [results, Tryz.results16, go_sem, e0, e1]) rfl ⟨rfl, e2⟩
   · obtain ⟨rfl, rfl⟩ := hA (by omega)
     obtain ⟨rfl, rfl⟩ := hC rfl
     have hxy0 : (0 : Int) = x ∧ (0 : Int) = y := by have := HR.out; simpa [orF] using this
     obtain ⟨rfl, rfl⟩ := hxy0
     go_wp2_with fail
     obtain ⟨e0, e1, e2⟩ := or_end' HRB.out HBR.out (.int .i64 0) (.int .i64 0)
     (try simp only [Exit.inBlock, Exit.then])
     exact bodyPost_ret (v := .agg #[.int .i64 0, .int .i64 0]) (by simp [results, Tryz.results16, go_sem, e0, e1]) rfl ⟨rfl, e2⟩
end Go.Proofs.YtipcoglddfgopaaGreatDoor
