/- Parts of the proof: ExZ. -/
import Derived.Test.YtipcoglddfgopaaGreatDoorJoin
import Derived.Test.YtipcoglddfgopaaGreatDoorP30
set_option linter.unusedSimpArgs false
set_option linter.unusedVariables false
namespace Go.Proofs.YtipcoglddfgopaaGreatDoor
open Go.RowKit
theorem signed_of (n : Nat) (IHS : SpecS n) (IHF : SpecF n) : SpecS (n + 1) := by
 intro W0 w c s hv h hn
 cases h0 : s.sees 0 sMinus with
 | true => exact signed_0 n IHS W0 w c s hv h hn h0
 | false =>
   cases h1 : s.sees 0 sNot with
   | true => exact signed_1 n IHS W0 w c s hv h hn h0 h1
   | false =>
     cases h2 : s.sees 0 sLen with
     | true => exact signed_2 n IHS W0 w c s hv h hn h0 h1 h2
     | false => exact signed_3 n IHF W0 w c s hv h hn h0 h1 h2
structure AllSp (n : Nat) : Prop where
 e : SpecE n
 j : SpecJ n
 s : SpecS n
 f : SpecF n
 a : SpecA n
 x : SpecX n
 u : SpecU n
 r : SpecR n
 l : SpecL n
theorem allSp_zero : AllSp 0 := by
 constructor
 · intro W0 w c s hv h hn; simp only [enough, Md.rank] at hn; omega
 · intro W0 w c s k hv h h1 h7 hn; simp only [enough, Md.rank] at hn; omega
 · intro W0 w c s hv h hn; simp only [enough, Md.rank] at hn; omega
 · intro W0 w c s hv h hn; simp only [enough, Md.rank] at hn; omega
 · intro W0 w c s hv h hn; simp only [enough, Md.rank] at hn; omega
 · intro W0 w c s hv h hn; simp only [enough, Md.rank] at hn; omega
 · intro W0 w B r c s p k ty v xs ys hv h hn; simp only [enough, Md.rank] at hn; omega
 · intro W0 w c s hv h hn; simp only [enough, Md.rank] at hn; omega
 · intro W0 w c s hv h hn; simp only [enough, Md.rank] at hn; omega
theorem allSp : ∀ n, AllSp n := by
 intro n
 induction n using Nat.strongRecOn with
 | ind n ih =>
   cases n with
   | zero => exact allSp_zero
   | succ n =>
     have h := ih n (by omega)
     exact ⟨expr_of n h.j, joined_of n h.s (fun m hm => (ih m (by omega)).j), signed_of n h.s h.f, followed_of n h.a (fun m hm => (ih m (by omega)).u), atom_of n h.u h.x, fixed_of n h.u h.r h.e, used_of n h.r, args_of n h.l, listed_of n (fun m hm => (ih m (by omega)).e)⟩
theorem ex_any : ExAny := fun W0 w c s hv h => (allSp (14 * s.len + 9)).e W0 w c s hv h (Nat.le_refl _)
theorem ar_any : ArAny := fun W0 w c s hv h => (allSp (14 * s.len + 12)).r W0 w c s hv h (Nat.le_refl _)
theorem prg_any (W0 w : World) (c : Nat) (s : RS) (hv : Vars W0) (h : Rd W0 c s w) : Calls Tryz.prog 15 #[.pointer (some ⟨c, 0, none⟩)] w (PgC W0 c w (prg s)) := prog_any ex_any ar_any W0 w c s hv h
end Go.Proofs.YtipcoglddfgopaaGreatDoor
