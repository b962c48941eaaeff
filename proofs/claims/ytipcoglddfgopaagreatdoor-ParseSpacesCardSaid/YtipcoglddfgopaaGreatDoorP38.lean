/- Parts of the proof: Sz, SzB. -/
import Derived.Test.YtipcoglddfgopaaGreatDoorSs
namespace Go.Proofs.YtipcoglddfgopaaGreatDoor
set_option linter.unusedSimpArgs false
set_option linter.unusedVariables false
section
open Go.RowKit
theorem sz_one (x : Nd) : sizeL [x] = x.size := by simp [sizeL]
theorem sz_mkE (k n : Int) (tx nm ty : ByteArray) (l : List Nd) : (mkE k n tx nm ty l).size = 1 + sizeL l := by simp [mkE, Nd.size]
theorem sz_two (x y : Nd) : sizeL [x, y] = x.size + y.size := by simp [sizeL]
theorem sz_noE : noE.size = 1 := by simp [noE, mkE, Nd.size, sizeL]
theorem sz_hd (l : List Nd) : (hdE l).size ≤ sizeL l ∨ ((hdE l).size = 1 ∧ l = []) := by
 cases l with
 | nil => right; exact ⟨sz_noE, rfl⟩
 | cons x l => left; simp [hdE, sizeL]
theorem sees_len' {s : RS} {p : ByteArray} (h : s.sees 0 p = true) : 1 ≤ s.len := by
 cases hw : s.ws with
 | nil => simp [RS.sees, seesP, hw] at h
 | cons x l => simp [RS.len, hw]
def Md.ext : Md → Nat
 | .loopJ _ e => e.size | .loopF e => e.size | .used _ _ _ l => 1 + sizeL l | .more l => sizeL l | _ => 1
theorem hd_le {l : List Nd} {a b c : Nat} (h : sizeL l + 2 * a ≤ 2 * b + c) (hl : a ≤ b) (hc : 1 ≤ c) : (hdE l).size + 2 * a ≤ 2 * b + c := by
 rcases sz_hd l with h1 | ⟨h1, _⟩ <;> omega
theorem run_size : ∀ (n : Nat) (m : Md) (s : RS), sizeL (run n m s).1 + 2 * (run n m s).2.len ≤ 2 * s.len + m.ext := by
 intro n
 induction n with
 | zero => intro m s; simp [run, sizeL] <;> omega
 | succ n ih =>
   intro m s
   cases m with
   | expr => exact ih _ _
   | joined k =>
     simp only [run]
     have h1 := ih .signed s
     have h2 := run_len n .signed s
     have h3 := hd_le h1 h2 (Nat.le_refl _)
     have h4 := ih (.loopJ k (hdE (run n .signed s).1)) (run n .signed s).2
     simp only [Md.ext] at h3 h4 ⊢
     omega
   | loopJ k e =>
     simp only [run]
     split
     · rename_i t ht
       split
       · have hl : 1 ≤ s.len := by
           cases hw : s.ws with
           | nil => simp [hw, fxP] at ht
           | cons x l => simp [RS.len, hw]
         have h0 := len_skip s
         have h1 := ih (.joined (tight t + 1)) s.skip
         have h2 := run_len n (.joined (tight t + 1)) s.skip
         have h3 := hd_le h1 h2 (Nat.le_refl _)
         have h4 := ih (.loopJ k (mkE 17 0 E0 t E0 [e, hdE (run n (.joined (tight t + 1)) s.skip).1])) (run n (.joined (tight t + 1)) s.skip).2
         simp only [Md.ext, sz_mkE, sz_two] at h3 h4 ⊢
         omega
       · simp only [sz_one, Md.ext]; omega
     · simp only [sz_one, Md.ext]; omega
   | signed =>
     simp only [run]
     split
     · rename_i t ht
       have hl : 1 ≤ s.len := by
         unfold signOf at ht
         split at ht
         · rename_i h; exact sees_len' h
         · split at ht
           · rename_i h; exact sees_len' h
           · split at ht
             · rename_i h; exact sees_len' h
             · cases ht
       have h0 := len_enter s t
       have h1 := ih .signed (s.enter t)
       have h2 := run_len n .signed (s.enter t)
       have h3 := hd_le h1 h2 (Nat.le_refl _)
       have h5 := len_dec (run n .signed (s.enter t)).2
       simp only [sz_one, sz_mkE, Md.ext] at h3 ⊢
       omega
     · exact ih _ _
   | followed =>
     simp only [run]
     have h1 := ih .atom s
     have h2 := run_len n .atom s
     have h3 := hd_le h1 h2 (Nat.le_refl _)
     have h4 := ih (.loopF (hdE (run n .atom s).1)) (run n .atom s).2
     simp only [Md.ext] at h3 h4 ⊢
     omega
   | loopF e =>
     simp only [run]
     have h0 := len_skip s
     have hc := len_class s.skip
     split
     · rename_i h
       have hl := sees_len' h
       have h1 := ih (.used 7 10 E0 [e]) s.skip
       have h2 := run_len n (.used 7 10 E0 [e]) s.skip
       have h3 := hd_le h1 h2 (by simp [Md.ext])
       have h4 := ih (.loopF (hdE (run n (.used 7 10 E0 [e]) s.skip).1)) (run n (.used 7 10 E0 [e]) s.skip).2
       simp only [Md.ext, sz_one] at h3 h4 ⊢
       omega
     · split
       · rename_i h
         have hl := sees_len' h
         have h4 := ih (.loopF (mkE 15 0 E0 E0 s.skip.classV [e])) s.skip.class
         simp only [Md.ext, sz_mkE, sz_one] at h4 ⊢
         omega
       · split
         · rename_i h
           have hl := sees_len' h
           have h4 := ih (.loopF (mkE 16 0 E0 E0 s.skip.classV [e])) s.skip.class
           simp only [Md.ext, sz_mkE, sz_one] at h4 ⊢
           omega
         · simp only [sz_one, Md.ext]; omega
   | used p c ty l =>
     simp only [run]
     have h0 := len_name s
     split
     · rename_i h
       have hl := sees_len' h
       have h1 := ih .args s.name
       simp only [sz_one, sz_mkE, sizeL_append, Md.ext] at h1 ⊢
       omega
     · simp only [sz_one, sz_mkE, Md.ext]; omega
   | args =>
     simp only [run]
     have h0 := len_enter s sOpen
     have h1 := ih .listed (s.enter sOpen)
     have h2 := len_leave (run n .listed (s.enter sOpen)).2 sShut
     simp only [Md.ext] at h1 ⊢
     omega
   | listed =>
     simp only [run]
     split
     · simp [sizeL, Md.ext] <;> omega
     · have h1 := ih .expr s
       have h2 := run_len n .expr s
       have h3 := hd_le h1 h2 (Nat.le_refl _)
       have h4 := ih (.more [hdE (run n .expr s).1]) (run n .expr s).2
       simp only [Md.ext, sz_one] at h3 h4 ⊢
       omega
   | more l =>
     simp only [run]
     split
     · rename_i h
       have hl := sees_len' h
       have h0 := len_skip s
       have h1 := ih .expr s.skip
       have h2 := run_len n .expr s.skip
       have h3 := hd_le h1 h2 (Nat.le_refl _)
       have h4 := ih (.more (l ++ [hdE (run n .expr s.skip).1])) (run n .expr s.skip).2
       simp only [Md.ext, sizeL_append, sz_one] at h3 h4 ⊢
       omega
     · simp only [Md.ext]; omega
   | atom =>
     simp only [run]
     have h0 := len_skip s
     have h1 := len_class s
     have h2 := len_need s.class sCols
     have h3 := len_num s 2147483647
     split
     · simp only [sz_one, sz_mkE, Md.ext, sizeL]; omega
     · simp only [sz_one, sz_mkE, Md.ext, sizeL]; omega
     · have := ih (.used 6 11 E0 []) s; simp only [Md.ext, sizeL] at this ⊢; omega
     · have := ih (.used 9 13 s.classV []) (s.class.need sCols); simp only [Md.ext, sizeL] at this ⊢; omega
     · have := ih .fixed s; simp only [Md.ext] at this ⊢; omega
   | fixed =>
     simp only [run]
     have h0 := len_skip s
     have h1 := len_class s.skip
     have h2 := len_need s.skip sDot
     have h3 := len_enter s sOpen
     have h4 := ih (.used 8 12 E0 []) (s.skip.need sDot)
     have h5 := ih .args s.skip.class
     have h6 := ih .expr (s.enter sOpen)
     have h7 := run_len n .expr (s.enter sOpen)
     have h8 := hd_le h6 h7 (Nat.le_refl _)
     have h9 := len_leave (run n .expr (s.enter sOpen)).2 sShut
     have h10 := len_fail s 3
     simp only [Md.ext, sizeL] at h4 h5 h8
     repeat' split
     all_goals simp only [sz_one, sz_mkE, sz_noE, Md.ext, sizeL]
     all_goals first
       | omega
       | (rename_i h; have hl := sees_len' h; omega)
end
section
open Go.RowKit
theorem sz_mkS (k n : Int) (ty nm : ByteArray) (e a b c : List Nd) : (mkS k n ty nm e a b c).size = 1 + (sizeL e + sizeL a + sizeL b + sizeL c) := by simp [mkS, Nd.size]
theorem sz_ex (s : RS) : (hdE (ex s).1).size + 2 * (ex s).2.len ≤ 2 * s.len + 1 := hd_le (run_size _ _ _) (run_len _ _ _) (Nat.le_refl _)
theorem sz_ar (s : RS) : sizeL (ar s).1 + 2 * (ar s).2.len ≤ 2 * s.len + 1 := run_size _ _ _
theorem sz_finE (s : RS) : sizeL (finE s).1 + 2 * (ex s).2.len ≤ 2 * s.len + 1 ∧ (finE s).2.len ≤ (ex s).2.len - 1 ∧ (ex s).2.len ≤ s.len := by
 refine ⟨?_, len_need _ _, len_ex s⟩
 have := sz_ex s
 show sizeL [hdE (ex s).1] + _ ≤ _
 rw [sz_one]; exact this
theorem sz_cond (s : RS) : sizeL (cond s).1 + 4 * (cond s).2.len ≤ 1 + 4 * (s.len - 1) ∧ (cond s).2.len ≤ s.len - 1 := by
 have h1 := len_need s sOpen
 have h2 := sz_ex (s.need sOpen)
 have h3 := len_ex (s.need sOpen)
 have h4 := len_need (ex (s.need sOpen)).2 sShut
 have e1 : sizeL (cond s).1 = (hdE (ex (s.need sOpen)).1).size := sz_one _
 have e2 : (cond s).2.len = ((ex (s.need sOpen)).2.need sShut).len := rfl
 omega
def Sz4 (b : Rb) : Prop := ∀ s, sizeL (b s).1 + 4 * (b s).2.len ≤ 4 * s.len
section
variable {b : Rb} (hb : Sz4 b)
include hb
theorem sz_choS (s : RS) : (choS b s).1.size + 4 * (choS b s).2.len ≤ 2 + 4 * s.len := by
 have h1 := sz_cond s
 have h2 := hb (cond s).2
 have h3 := len_skip (b (cond s).2).2
 have h4 := hb (b (cond s).2).2.skip
 unfold choS
 split
 · simp only [sz_mkS, sizeL]; omega
 · simp only [sz_mkS, sizeL]; omega
theorem sz_whlS (s : RS) : (whlS b s).1.size + 4 * (whlS b s).2.len ≤ 2 + 4 * s.len := by
 have h1 := sz_cond s
 have h2 := hb (cond s).2
 simp only [whlS, sz_mkS, sizeL]; omega
theorem sz_attS (s : RS) : (attS b s).1.size + 4 * (attS b s).2.len ≤ 2 + 4 * s.len := by
 have h1 := hb s
 have h2 := len_need (b s).2 kCatch
 have h3 := len_need ((b s).2.need kCatch) sOpen
 have h4 := len_class (at1 b s)
 have h5 := len_name (at2 b s)
 have h6 := len_need (at2 b s).name sShut
 have e1 : (at1 b s).len = (((b s).2.need kCatch).need sOpen).len := rfl
 have e2 : (at2 b s).len = (at1 b s).class.len := rfl
 have e3 : (at3 b s).len = ((at2 b s).name.need sShut).len := rfl
 have h7 := hb (at3 b s)
 have h8 := len_skip (b (at3 b s)).2
 have h9 := hb (b (at3 b s)).2.skip
 unfold attS
 split
 · simp only [sz_mkS, sizeL]; omega
 · simp only [sz_mkS, sizeL]; omega
end
theorem sz_resS (s : RS) : (resS s).1.size + 4 * (resS s).2.len ≤ 2 + 4 * s.len := by
 have h1 := sz_finE s
 have h2 := len_skip s
 unfold resS
 split
 · simp only [sz_mkS, sizeL]; omega
 · simp only [sz_mkS, sizeL]; omega
theorem sz_supS (s : RS) (h : 1 ≤ s.len) : (supS s).1.size + 4 * (supS s).2.len ≤ 4 * s.len := by
 have h1 := sz_ar s.skip
 have h2 := len_skip s
 have h3 := len_ar s.skip
 have h4 := len_need (ar s.skip).2 sSemi
 simp only [supS, sz_mkS, sizeL]; omega
theorem sz_plaS (s : RS) (h : 1 ≤ s.len) : (plaS s).1.size + 4 * (plaS s).2.len ≤ 4 * s.len := by
 have h1 := sz_ex s
 have h2 := len_ex s
 have h3 := len_skip (ex s).2
 have h4 := sz_finE (ex s).2.skip
 have h5 := len_need (ex s).2 sSemi
 unfold plaS
 split
 · rename_i h; have hl := sees_len' h
   simp only [sz_mkS, sizeL]; omega
 · simp only [sz_mkS, sz_one, sizeL]; omega
theorem sz_varS (s : RS) (h : 1 ≤ s.len) : (varS s).1.size + 4 * (varS s).2.len ≤ 4 * s.len := by
 have h2 := len_typ s
 have h3 := len_name s.typ
 have h4 := len_need s.typ.name sEq
 have h5 := sz_finE (s.typ.name.need sEq)
 have e1 : (varS s).1.size = 1 + sizeL (finE (s.typ.name.need sEq)).1 := by simp only [varS, valE, sz_mkS, sizeL]; omega
 have e2 : (varS s).2.len = (finE (s.typ.name.need sEq)).2.len := rfl
 omega
theorem sz_fine (k n : Int) (s : RS) : (mkS k n E0 E0 (finE s).1 [] [] []).size + 4 * (finE s).2.len ≤ 2 + 4 * s.len := by
 have h1 := sz_finE s
 simp only [sz_mkS, sizeL]; omega
theorem sz_stS {b : Rb} (hb : Sz4 b) (s : RS) (h : 1 ≤ s.len) : (stS b s).1.size + 4 * (stS b s).2.len ≤ 4 * s.len := by
 have k := len_skip s
 have h1 := sz_varS s h
 have h2 := sz_choS hb s.skip
 have h3 := sz_whlS hb s.skip
 have h4 := sz_resS s.skip
 have h5 := sz_fine 7 0 s.skip
 have h6 := sz_fine 8 (s.skip.numR 9999) (s.skip.num 9999)
 have h7 := sz_fine 9 0 s.skip
 have h8 := sz_attS hb s.skip
 have h9 := sz_supS s h
 have h10 := sz_plaS s h
 have h11 := len_num s.skip 9999
 unfold stS
 split
 · exact h1
 split
 · omega
 split
 · omega
 split
 · omega
 split
 · show (mkS 7 0 E0 E0 (finE s.skip).1 [] [] []).size + 4 * (finE s.skip).2.len ≤ _; omega
 split
 · show (mkS 8 (s.skip.numR 9999) E0 E0 (finE (s.skip.num 9999)).1 [] [] []).size + 4 * (finE (s.skip.num 9999)).2.len ≤ _; omega
 split
 · show (mkS 9 0 E0 E0 (finE s.skip).1 [] [] []).size + 4 * (finE s.skip).2.len ≤ _; omega
 split
 · omega
 split
 · split
   · exact h9
   · exact h10
 · exact h10
theorem until_len {s : RS} {p : ByteArray} (h : s.until p = true) : 1 ≤ s.len := by
 cases hw : s.ws with
 | nil => simp [RS.until, hw] at h
 | cons x l => simp [RS.len, hw]
def Ms.ext : Ms → Nat
 | .body _ => 0 | .loop _ l => sizeL l
theorem runS_size : ∀ (n : Nat) (m : Ms) (s : RS), sizeL (runS n m s).1 + 4 * (runS n m s).2.len ≤ 4 * s.len + m.ext := by
 intro n
 induction n with
 | zero => intro m s; simp only [runS, sizeL]; omega
 | succ n ih =>
   intro m s
   cases m with
   | body c =>
     have h1 := len_enter s sBra
     have h2 := ih (.loop c []) (s.enter sBra)
     have h3 := len_leave (runS n (.loop c []) (s.enter sBra)).2 sKet
     simp only [runS, Ms.ext, sizeL] at h2 ⊢
     omega
   | loop c l =>
     simp only [runS]
     split
     · rename_i hu
       have h0 := sz_stS (b := runS n (.body false)) (fun s => by have := ih (.body false) s; simpa [Ms.ext] using this) s (until_len hu)
       refine Nat.le_trans (ih _ _) ?_
       simp only [Ms.ext, sizeL_append, sz_one]
       split
       · omega
       · rw [len_late]; omega
     · simp only [Ms.ext]; omega
theorem sz_bd (c : Bool) (s : RS) : sizeL (bd c s).1 + 4 * (bd c s).2.len ≤ 4 * s.len := by have := runS_size (4 * s.len + 3) (.body c) s; simpa [Ms.ext, bd] using this
theorem sz_metM (st : Bool) (ty nm : ByteArray) (s : RS) : (metM st ty nm s).1.size + 4 * (metM st ty nm s).2.len ≤ 1 + 4 * s.len := by
 have h1 := len_parP s
 have h2 := sz_bd false (parP s).2
 simp only [metM, mkM, Nd.size]; omega
theorem sz_fldM (st : Bool) (ty nm : ByteArray) (s : RS) : (fldM st ty nm s).1.size + 4 * (fldM st ty nm s).2.len ≤ 2 + 4 * s.len := by
 have h1 := len_skip s
 have h2 := sz_ex s.skip
 have h3 := len_need (ex s.skip).2 sSemi
 have h4 := len_need s sSemi
 have h5 := len_ex s.skip
 unfold fldM; split
 · simp only [mkF, Nd.size, sz_one]; omega
 · simp only [mkF, Nd.size, sizeL]; omega
theorem sz_ctoM (s : RS) (h : 1 ≤ s.len) : (ctoM s).1.size + 4 * (ctoM s).2.len ≤ 4 * s.len := by
 have h1 := len_skip s
 have h2 := len_parP s.skip
 have h3 := sz_bd true (parP s.skip).2
 simp only [ctoM, mkM, Nd.size]; omega
theorem sz_memM (own : ByteArray) (s : RS) (h : 1 ≤ s.len) : (memM own s).1.size + 4 * (memM own s).2.len ≤ 4 * s.len := by
 have h0 := len_take s kStatic
 have hs := len_skip s
 have h2 := len_skip (s.take kStatic)
 have h3 := len_name (s.take kStatic).skip
 have h4 := sz_metM (s.sees 0 kStatic) kVoid (s.take kStatic).skip.nameV (s.take kStatic).skip.name
 have h5 := len_typ (s.take kStatic)
 have h6 := len_name (s.take kStatic).typ
 have h7 := sz_metM (s.sees 0 kStatic) (s.take kStatic).typV (s.take kStatic).typ.nameV (s.take kStatic).typ.name
 have h8 := sz_fldM (s.sees 0 kStatic) (s.take kStatic).typV (s.take kStatic).typ.nameV (s.take kStatic).typ.name
 have h9 : s.sees 0 kStatic = false → s.take kStatic = s := by intro g; simp [RS.take, g]
 unfold memM
 split
 · rename_i g
   rw [h9 g.1]; exact sz_ctoM s h
 split
 · rename_i g; have := sees_len' g; omega
 split
 · omega
 · omega
theorem sz_loopC : ∀ (n : Nat) (own : ByteArray) (f g : List Nd) (s : RS), sizeL (loopC n own f g s).1.1 + sizeL (loopC n own f g s).1.2 + 4 * (loopC n own f g s).2.len ≤ 4 * s.len + sizeL f + sizeL g := by
 intro n
 induction n with
 | zero => intro own f g s; simp only [loopC]; omega
 | succ n ih =>
   intro own f g s
   simp only [loopC]
   split
   · rename_i hu
     have h0 := sz_memM own s (until_len hu)
     split
     · refine Nat.le_trans (ih _ _ _ _) ?_
       simp only [sizeL_append, sz_one]; omega
     · refine Nat.le_trans (ih _ _ _ _) ?_
       simp only [sizeL_append, sz_one]; omega
   · simp only; omega
theorem sz_clsC (s : RS) (h : 1 ≤ s.len) : (clsC s).1.size + 4 * (clsC s).2.len ≤ 4 * s.len := by
 have h1 := len_kl3 s
 have h2 : sizeL (clB s).1.1 + sizeL (clB s).1.2 + 4 * (clB s).2.len ≤ 4 * (kl3 s).len := by
   have := sz_loopC ((kl3 s).len + 1) (s.need kClass).classV [] [] (kl3 s)
   simpa [clB, sizeL] using this
 have h3 := len_need (clB s).2 sKet
 simp only [clsC, Nd.size]; omega
theorem sz_loopG : ∀ (n : Nat) (l : List Nd) (s : RS), sizeL (loopG n l s).1 + 4 * (loopG n l s).2.len ≤ 4 * s.len + sizeL l := by
 intro n
 induction n with
 | zero => intro l s; simp only [loopG]; omega
 | succ n ih =>
   intro l s
   simp only [loopG]
   split
   · show sizeL l + 4 * s.len ≤ _; omega
   · rename_i hu
     have hl : 1 ≤ s.len := by
       cases hw : s.ws with
       | nil => simp [hw] at hu
       | cons x l => simp [RS.len, hw]
     have h0 := sz_clsC s hl
     refine Nat.le_trans (ih _ _) ?_
     simp only [sizeL_append, sz_one]; omega
theorem prg_size (s : RS) : sizeL (prg s).1 ≤ 4 * s.len := by
 have := sz_loopG (s.len + 1) [] s
 simp only [sizeL] at this
 show sizeL (loopG (s.len + 1) [] s).1 ≤ _
 omega
end
end Go.Proofs.YtipcoglddfgopaaGreatDoor
