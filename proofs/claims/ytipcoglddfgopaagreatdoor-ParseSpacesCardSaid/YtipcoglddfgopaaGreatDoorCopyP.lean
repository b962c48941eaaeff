/- Parts of the proof: CopyP. -/
import Derived.Test.YtipcoglddfgopaaGreatDoorP2
set_option linter.unusedSimpArgs false
set_option linter.unusedVariables false
namespace Go.Proofs.YtipcoglddfgopaaGreatDoor
open Go.RowKit
def FkL (B : Nat) (w : World) (t : Tg) (v : Value) (l : List Nd) : Prop :=
 ∀ ws, (∀ k j u, B ≤ k → w.cell? ⟨k, j, none⟩ = some u → ws.cell? ⟨k, j, none⟩ = some u) → Rw ws t v l ∧ KdL ws l
theorem FkL.now {B : Nat} {w : World} {t : Tg} {v : Value} {l : List Nd} (h : FkL B w t v l) : Rw w t v l ∧ KdL w l := h w fun _ _ _ _ h => h
theorem FkL.mono {B C : Nat} {w : World} {t : Tg} {v : Value} {l : List Nd} (h : FkL B w t v l) (hB : C ≤ B) : FkL C w t v l := fun ws hs => h ws fun k j u hk hu => hs k j u (Nat.le_trans hB hk) hu
theorem FkL.next {B : Nat} {w w' : World} {t : Tg} {v : Value} {l : List Nd} (h : FkL B w t v l) (hk : ∀ k j u, B ≤ k → w.cell? ⟨k, j, none⟩ = some u → w'.cell? ⟨k, j, none⟩ = some u) : FkL B w' t v l :=
 fun ws hs => h ws fun k j u hB hu => hs k j u hB (hk k j u hB hu)
theorem FkL.keep {B : Nat} {w w' : World} {t : Tg} {v : Value} {l : List Nd} (h : FkL B w t v l) (K : Keep w w') : FkL B w' t v l := h.next fun k j u _ hu => K _ _ hu
theorem FkL.below {B : Nat} {w w' : World} {t : Tg} {v : Value} {l : List Nd} (h : FkL B w t v l) (hb : Below w.heap.size w w') : FkL B w' t v l := h.keep (Keep.below hb)
theorem FkL.set {B c : Nat} {w : World} {t : Tg} {v : Value} {l : List Nd} (h : FkL B w t v l) (hc : c < B) (j : Nat) (u : Value) : FkL B (w.setCell ⟨c, j, none⟩ u) t v l :=
 h.next fun k i x hB hu => by rw [World.cell?_setCell_other _ _ _ _ (by simp <;> omega)]; exact hu
theorem FkL.nil (B : Nat) (w : World) (t : Tg) : FkL B w t (.slice none 0 0) [] := fun ws _ => ⟨⟨none, 0, rfl, by unfold maxLen; simp, by simp, fun h => by simp at h⟩, trivial⟩
def KO (B : Nat) (r : Option Nat) (w : World) (l : List Nd) : Prop :=
 ∀ ws, (∀ k j u, B ≤ k → some k ≠ r → w.cell? ⟨k, j, none⟩ = some u → ws.cell? ⟨k, j, none⟩ = some u) → KdL ws l
theorem KO.nil (B : Nat) (r : Option Nat) (w : World) : KO B r w [] := fun _ _ => trivial
theorem fk_len {B : Nat} {w : World} {t : Tg} {v : Value} {l : List Nd} (h : FkL B w t v l) : ∃ A cap, v = .slice A l.length cap := h.now.1.form
theorem len_of_bare {a b : List Nd} (h : bareL a = bareL b) : a.length = b.length := by rw [← bareL_len a, h, bareL_len]
theorem new_at (w : World) (cs : List Value) (T : TypeId) : ∀ (j : Nat) (u : Value), cs[j]? = some u → (w.alloc (.cells cs.toArray T)).cell? ((⟨w.heap.size, 0, none⟩ : Addr).add j) = some u := by
 intro j u hj
 have hx : Bx (w.alloc (.cells cs.toArray T)) w.heap.size cs.toArray T := Bx.new w _ T
 rw [add_off, Nat.zero_add]
 exact (hx.cell j).trans (by simpa using hj)
end Go.Proofs.YtipcoglddfgopaaGreatDoor
