/- Parts of the proof: SignF, BareN, CopyP, BareO, BareQ, App. -/
import Derived.Test.YtnbfajmdfkgebaaGreatDoorP5
import Derived.Test.YtnbfajmdfkgebaaGreatDoorP0
import Derived.Lib.Hide
import Derived.Lib.RuneBytes
import Derived.WalkKit
import Derived.BigCall
import Derived.Deep.QuietTactic
import Derived.BigQuiet
import Derived.Deep.AppendLies
import Derived.Test.YtnbfajmdfkgebaaGreatDoorP7
import Derived.Test.YtnbfajmdfkgebaaGreatDoorP19
import Derived.Laws.AppendOwnNone
set_option maxHeartbeats 2000000
namespace Go.Proofs.YtnbfajmdfkgebaaGreatDoor
set_option linter.unusedSimpArgs false
set_option linter.unusedVariables false
section
open Go.RowKit
theorem ret_sb (a b : ByteArray) (x y : Bool) (h1 : a = b) (h2 : x = y) : Ending.returned (.tuple #[.string a, .bool x]) = .returned (.tuple #[.string b, .bool y]) := by rw [h1, h2]
theorem plain_any (s : ByteArray) (w : World) (hs : s.size ≤ 16777216) : Calls Tryz.prog 109 #[.string s] w fun e w' => e = .returned (.tuple #[.string ⟨(plainText s).toArray⟩, .bool (plainOk s)]) ∧ Below w.heap.size w w' := by
 by_cases hbad : 0 ≤ bad s
 · obtain ⟨r1, r2⟩ := plain_bad s hbad
   have R1 := Lib.hid r1; clear r1
   have R2 := Lib.hid r2; clear r2
   go_enter Tryz.func109, Tryz.ntmps109
   go_wp2_with (go_at_call 53; refine (bad_any _ _ (by unfold maxLen; omega)).mono ?_; rintro e w1 ⟨rfl, hb1⟩)
   go_ret2
   exact ⟨by rw [R1.out, R2.out]; rfl, hb1⟩
 · have hbad' : bad s < 0 := by omega
   go_enter Tryz.func109, Tryz.ntmps109
   go_wp2_with (go_at_call 53; refine (bad_any _ _ (by unfold maxLen; omega)).mono ?_; rintro e w1 ⟨rfl, hb1⟩)
   have hw1 := hb1.size
   have PO := Lib.hid (plain_of s hbad')
   have hI0 := bnew w1
   have bb : Below w.heap.size w (w1.alloc (.cells #[.pointer none, .slice none 0 0] 177)) := hb1.alloc (by omega) _
   go_loopw [5] (fun v5 wr => ∃ (p : Nat) (esc : Bool) (acc : List UInt8), v5 = .bool esc ∧ Bld w1.heap.size w1.heap.size acc wr ∧ wr.heap[w1.heap.size + 1]? = some (.stringIter s p) ∧ Below w.heap.size w wr ∧ Reads s p esc acc ∧ acc.length ≤ 4 * p ∧ p ≤ s.size) (fun v5 wr => s.size - wr.iterPos (w1.heap.size + 1))
   case atStart =>
     refine ⟨0, false, [], rfl, hI0.alloc _, ?_, bb.alloc (by simp; omega) _, reads_start s, by simp, Nat.zero_le _⟩
     have := World.iter_heap (w1.alloc (.cells #[.pointer none, .slice none 0 0] 177)) s 0
     simpa using this
   case round =>
     obtain ⟨p, esc, acc, rfl, hI, hit, hbw, hR, hal, hp⟩ := hrel
     have hsz : w1.heap.size + 1 < wr.heap.size := (Array.getElem?_eq_some_iff.1 hit).1
     have HR := Lib.hid hR; clear hR
     by_cases hlt : p < s.size
     · have hnx := fun ty => Lib.run_next_any_at (P := Tryz.prog) wr (w1.heap.size + 1) s p ty hit hlt
       have hw := wid_pos s p
       have hwl := wid_le s p hlt
       have hI2 := hI.iterAt hit (p + (Utf8.decode s p).2)
       have hit2 := Lib.iterAt_heap wr (w1.heap.size + 1) s p (p + (Utf8.decode s p).2) hit
       have hbw2 := Lib.below_iterAt hbw (k := w1.heap.size + 1) (by omega) s (p + (Utf8.decode s p).2)
       have hsz2 : w1.heap.size ≤ (wr.iterAt (w1.heap.size + 1) s (p + (Utf8.decode s p).2)).heap.size := by rw [Lib.iterAt_size]; omega
       by_cases h92 : (((Utf8.decode s p).1 : Nat) : Int) = 92 ∧ esc = false
       · obtain ⟨g, rfl⟩ := h92
         have HN := Lib.hid (reads_esc s p acc hlt g HR.out)
         have h92b : ((((Utf8.decode s p).1 : Nat) : Int) == 92) = true := by rw [beq_iff_eq]; exact g
         clear g
         go_wp2
         go_roundw
         case rel => exact ⟨p + (Utf8.decode s p).2, true, acc, rfl, hI2, hit2, hbw2, HN.out, by omega, hwl⟩
         case measure => simp only [World.iterPos, hit2, hit]; omega
       · have hreg : ((((Utf8.decode s p).1 : Nat) : Int) == 92) = false ∨ (((((Utf8.decode s p).1 : Nat) : Int) == 92) = true ∧ esc = true) := by
           by_cases g : (((Utf8.decode s p).1 : Nat) : Int) = 92
           · right; refine ⟨by rw [beq_iff_eq]; exact g, ?_⟩
             cases esc
             · exact absurd ⟨g, rfl⟩ h92
             · rfl
           · left; rw [beq_eq_false_iff_ne]; exact g
         cases hm : means ((Utf8.decode s p).1 : Nat) esc
         · have hn := PO.out _ (reads_none s p esc acc hlt hm h92 HR.out)
           have HN := Lib.hid hn; clear hn h92
           rcases hreg with hreg | ⟨hreg, rfl⟩
           all_goals go_wp2_with (go_at_call 135; refine (meantBy_any _ _ _).mono ?_; rintro e w' ⟨rfl, rfl⟩)
           all_goals go_ret2
           all_goals exact ⟨ret_sb _ _ _ _ (by rw [HN.out.1]; rfl) (by rw [HN.out.2]; rfl), hbw2⟩
         · have HN := Lib.hid (reads_next s p esc acc hlt hm HR.out)
           have hmr := meant_range s p esc
           have hle := enc_len (meant ((Utf8.decode s p).1 : Nat) esc)
           clear h92
           rcases hreg with hreg | ⟨hreg, rfl⟩
           all_goals go_wp2_with (first | (go_at_call 135; refine (meantBy_any _ _ _).mono ?_; rintro e w' ⟨rfl, rfl⟩) | (go_at_call 136; refine (wrune w1.heap.size w1.heap.size acc _ hmr.1 hmr.2 _ hI2 (by omega) hsz2).mono ?_))
           all_goals (
             rintro e W2 ⟨⟨n2, rfl⟩, h2, b2, k2⟩
             have hit3 := k2.iter hit2 (by omega)
             have hb3 := hbw2.trans (b2.mono hw1)
             go_wp2
             go_roundw
             case rel => exact ⟨p + (Utf8.decode s p).2, false, _, rfl, h2, hit3, hb3, HN.out, by simp; omega, hwl⟩
             case measure => simp only [World.iterPos, hit3, hit]; omega)
     · have hnx := fun ty => Lib.run_next_end_at (P := Tryz.prog) wr (w1.heap.size + 1) s p ty hit hlt
       have hn := PO.out _ (reads_end s p esc acc hlt HR.out)
       have hsz2 : w1.heap.size ≤ wr.heap.size := by omega
       cases esc
       · have HN := Lib.hid hn; clear hn
         go_wp2_with (go_at_call 137; refine (bstring w1.heap.size w1.heap.size acc _ hI hsz2).mono ?_)
         rintro e W3 ⟨rfl, h4, b4, k4⟩
         go_wp2
         go_ret2
         exact ⟨ret_sb _ _ _ _ (by rw [HN.out.1]; rfl) (by rw [HN.out.2]; rfl), hbw.trans (b4.mono hw1)⟩
       · have HN := Lib.hid hn; clear hn
         go_wp2
         go_ret2
         exact ⟨ret_sb _ _ _ _ (by rw [HN.out.1]; rfl) (by rw [HN.out.2]; rfl), hbw⟩
end
section
open Go.RowKit
mutual
def bareN : Nd → Nd
 | .ex k n tx nm ty _ l _ _ => .ex k n tx nm ty (.slice none 0 0) (bareL l) ⟨#[]⟩ 0
 | .st k n ty nm _ _ _ _ e a b c _ => .st k n ty nm (.slice none 0 0) (.slice none 0 0) (.slice none 0 0) (.slice none 0 0) (bareL e) (bareL a) (bareL b) (bareL c) 0
 | .fd s ty nm _ l => .fd s ty nm (.slice none 0 0) (bareL l)
 | .mt s c ty nm _ ps _ l => .mt s c ty nm (.slice none 0 0) ps (.slice none 0 0) (bareL l)
 | .cl nm sp _ _ f m => .cl nm sp (.slice none 0 0) (.slice none 0 0) (bareL f) (bareL m)
def bareL : List Nd → List Nd
 | [] => []
 | x :: l => bareN x :: bareL l
end
theorem bareL_map (l : List Nd) : bareL l = l.map bareN := by
 induction l with
 | nil => rfl
 | cons x l ih => simp [bareL, ih]
theorem tag_bare (x : Nd) : (bareN x).tag = x.tag := by cases x <;> rfl
theorem add_off (b o j : Nat) : (⟨b, o, none⟩ : Addr).add j = ⟨b, o + j, none⟩ := by unfold Addr.add; split <;> simp_all
theorem flat_get {t : Tg} : ∀ (l : List Nd) (i j : Nat) (x : Nd), (∀ y ∈ l, y.tag = t) → l[i]? = some x → j < t.sz → (l.flatMap cellsN)[i * t.sz + j]? = (cellsN x)[j]?
 | [], i, j, x, _, h, _ => by simp at h
 | y :: l, 0, j, x, ht, h, hj => by
   simp at h; subst h
   rw [List.flatMap_cons, Nat.zero_mul, Nat.zero_add, List.getElem?_append_left (by rw [cells_len, ht y (by simp)]; exact hj)]
 | y :: l, i + 1, j, x, ht, h, hj => by
   have ih := flat_get l i j x (fun z hz => ht z (by simp [hz])) (by simpa using h) hj
   have hy : (cellsN y).length = t.sz := by rw [cells_len, ht y (by simp)]
   rw [List.flatMap_cons, List.getElem?_append_right (by rw [hy, Nat.add_mul]; omega), hy, ← ih]
   congr 1; rw [Nat.add_mul]; omega
theorem grown_set_at (w : World) (g o : Nat) (u : Value) : w.grownBy (w.setCell ⟨g, o, none⟩ u) (some g) :=
 ⟨rfl, rfl, rfl, by simp, fun k hk hne => Below.heap_setCell w _ u k (fun e => hne (by rw [e]))⟩
theorem own_row {w : World} {B n : Nat} {e : TypeId} {v : Value} {xs : List Value} {sz : Nat} (h : w.ownsRow B e sz v n xs) (hn : 0 < n) : ∃ g cap, v = .slice (some ⟨g, 0, none⟩) n cap ∧ B ≤ g ∧ g < w.heap.size ∧ ∀ k u, xs[k]? = some u → w.cell? ⟨g, k, none⟩ = some u ∧ w.frozen? ⟨g, k, none⟩ = false := by
 obtain ⟨g, cap, rfl, hb, hl⟩ := h.form hn
 refine ⟨g, cap, rfl, hb, hl, fun k u hu => ⟨?_, h.frozenAt k⟩⟩
 have hc := h.cells (g := g) rfl k u hu
 rw [add_off] at hc
 simpa using hc
theorem gen_world {P : Program} {c : Code} {Q : Exit → Act → World → Prop} {a : Act} {W0 : World} (F : World → Prop) (h0 : F W0) (h : ∀ W, F W → Code.wp P c Q a W) : Code.wp P c Q a W0 := h W0 h0
theorem bareL_len (l : List Nd) : (bareL l).length = l.length := by rw [bareL_map]; simp
theorem bareL_append (a b : List Nd) : bareL (a ++ b) = bareL a ++ bareL b := by simp [bareL_map]
theorem kids_bare (x : Nd) : (bareN x).kids = bareL x.kids := by cases x <;> simp [bareN, Nd.kids, bareL_append]
end
section
open Go.RowKit
def FkL (B : Nat) (w : World) (t : Tg) (v : Value) (l : List Nd) : Prop :=
 ∀ ws, (∀ k j u, B ≤ k → w.cell? ⟨k, j, none⟩ = some u → ws.cell? ⟨k, j, none⟩ = some u) → Rw ws t v l ∧ KdL ws l
theorem FkL.now {B : Nat} {w : World} {t : Tg} {v : Value} {l : List Nd} (h : FkL B w t v l) : Rw w t v l ∧ KdL w l := h w fun _ _ _ _ h => h
theorem FkL.mono {B C : Nat} {w : World} {t : Tg} {v : Value} {l : List Nd} (h : FkL B w t v l) (hB : C ≤ B) : FkL C w t v l := fun ws hs => h ws fun k j u hk hu => hs k j u (Nat.le_trans hB hk) hu
theorem FkL.next {B : Nat} {w w' : World} {t : Tg} {v : Value} {l : List Nd} (h : FkL B w t v l) (hk : ∀ k j u, B ≤ k → w.cell? ⟨k, j, none⟩ = some u → w'.cell? ⟨k, j, none⟩ = some u) : FkL B w' t v l :=
 fun ws hs => h ws fun k j u hB hu => hs k j u hB (hk k j u hB hu)
theorem FkL.keep {B : Nat} {w w' : World} {t : Tg} {v : Value} {l : List Nd} (h : FkL B w t v l) (K : Keep w w') : FkL B w' t v l := h.next fun k j u _ hu => K _ _ hu
theorem FkL.below {B : Nat} {w w' : World} {t : Tg} {v : Value} {l : List Nd} (h : FkL B w t v l) (hb : Below w.heap.size w w') : FkL B w' t v l := h.keep (Keep.below hb)
theorem FkL.set {B c : Nat} {w : World} {t : Tg} {v : Value} {l : List Nd} (h : FkL B w t v l) (hc : c < B) (j : Nat) (u : Value) : FkL B (w.setCell ⟨c, j, none⟩ u) t v l :=
 h.next fun k i x hB hu => by rw [World.cell?_setCell_other _ _ _ _ (by simp <;> omega)]; exact hu
theorem FkL.nil (B : Nat) (w : World) (t : Tg) : FkL B w t (.slice none 0 0) [] := fun ws _ => ⟨⟨none, 0, rfl, by unfold maxLen; simp, by simp, fun h => by simp at h⟩, trivial⟩
def KO (B : Nat) (r : Option Nat) (w : World) (l : List Nd) : Prop :=
 ∀ ws, (∀ k j u, B ≤ k → some k ≠ r → w.cell? ⟨k, j, none⟩ = some u → ws.cell? ⟨k, j, none⟩ = some u) → KdL ws l
theorem KO.nil (B : Nat) (r : Option Nat) (w : World) : KO B r w [] := fun _ _ => trivial
theorem fk_len {B : Nat} {w : World} {t : Tg} {v : Value} {l : List Nd} (h : FkL B w t v l) : ∃ A cap, v = .slice A l.length cap := h.now.1.form
theorem len_of_bare {a b : List Nd} (h : bareL a = bareL b) : a.length = b.length := by rw [← bareL_len a, h, bareL_len]
theorem new_at (w : World) (cs : List Value) (T : TypeId) : ∀ (j : Nat) (u : Value), cs[j]? = some u → (w.alloc (.cells cs.toArray T)).cell? ((⟨w.heap.size, 0, none⟩ : Addr).add j) = some u := by
 intro j u hj
 have hx : Bx (w.alloc (.cells cs.toArray T)) w.heap.size cs.toArray T := Bx.new w _ T
 rw [add_off, Nat.zero_add]
 exact (hx.cell j).trans (by simpa using hj)
end
section
open Go.RowKit
theorem sizeL_bare : ∀ (n : Nat) (a : List Nd), sizeL a ≤ n → sizeL (bareL a) = sizeL a
 | _, [], _ => rfl
 | 0, x :: a, h => by have := size_pos x; simp [sizeL] at h; omega
 | n + 1, x :: a, h => by
   simp only [sizeL] at h
   have h1 := size_kids x
   have h2 := size_kids (bareN x)
   rw [kids_bare, sizeL_bare n x.kids (by omega)] at h2
   simp only [bareL, sizeL]
   rw [sizeL_bare n a (by have := size_pos x; omega)]; omega
theorem sizeL_of_bare {a b : List Nd} (h : bareL a = bareL b) : sizeL a = sizeL b := by
 rw [← sizeL_bare (sizeL a) a (Nat.le_refl _), ← sizeL_bare (sizeL b) b (Nat.le_refl _), h]
end
section
theorem kind_bare (x : Nd) : (bareN x).kind = x.kind := by cases x <;> rfl
theorem sup_bare (l : List Nd) : hasSup (bareL l) = hasSup l := by
 unfold hasSup
 rw [bareL_map, List.any_map]
 congr 1; funext x; simp [kind_bare]
theorem head_bare (l : List Nd) : headK (bareL l) = headK l := by
 cases l with
 | nil => rfl
 | cons x l => simp [bareL, headK, kind_bare]
theorem tail_bare (l : List Nd) : (bareL l).tail = bareL l.tail := by cases l <;> rfl
theorem fits_bare (x : Nd) : fitsB (bareN x) = fitsB x := by
 cases x with
 | ex k n tx nm ty v l own nth => simp [bareN, fitsB, bareL_len]
 | st k n ty nm ve va vb vc e a b c nth => simp [bareN, fitsB, fitS, exprsS, blocksS, bareL_len, sup_bare, head_bare]
 | fd s ty nm v l => simp [bareN, fitsB, bareL_len]
 | mt s c ty nm vp ps v l => simp [bareN, fitsB, fitM, sup_bare, tail_bare]
 | cl nm sp vf vm f m => simp [bareN, fitsB, bareL_len]
theorem step_bare (x y : Nd) : stepN (bareN x) (bareN y) = stepN x y := by unfold stepN; rw [tag_bare, tag_bare]
theorem okT_bare : ∀ (n : Nat) (x : Nd) (d : Nat), x.size ≤ n → okT (bareN x) d = okT x d
 | 0, x, d, h => by have := size_pos x; omega
 | n + 1, x, d, h => by
   have h1 := size_kids x
   rw [okT_eq, okT_eq x, fits_bare, kids_bare]
   have : ((bareL x.kids).all fun y => okT y (d + stepN (bareN x) y)) = (x.kids.all fun y => okT y (d + stepN x y)) := by
     rw [bareL_map, List.all_map, Bool.eq_iff_iff, List.all_eq_true, List.all_eq_true]
     constructor
     · intro g y hy
       have := g y hy
       simp only [Function.comp_apply] at this
       rw [step_bare, okT_bare n y _ (by have := size_mem hy; omega)] at this; exact this
     · intro g y hy
       simp only [Function.comp_apply]
       rw [step_bare, okT_bare n y _ (by have := size_mem hy; omega)]; exact g y hy
   rw [this]
theorem mayB_bare (l : List Nd) : mayB (bareL l) = mayB l := by
 unfold mayB
 rw [bareL_len, sizeL_bare _ l (Nat.le_refl _)]
 congr 2
 rw [bareL_map, List.all_map]
 congr 1; funext x
 exact okT_bare _ x 0 (Nat.le_refl _)
theorem mayB_of_bare {a b : List Nd} (h : bareL a = bareL b) : mayB a = mayB b := by rw [← mayB_bare a, ← mayB_bare b, h]
end
section
open Go.RowKit
theorem append_any {P : Program} {w : World} {ops : Array Oper} {rest : List Oper} {o : Oper} {a : Act} {Q : Exit → Act → World → Prop} (hgd : o.guard = none) (s x : Operand) (t : TypeId)
   (ho : o.op = .call { callee := .builtin .append, args := #[s, x], argTypes := #[t, t] })
   (base : Nat) (e : TypeId) (i : TypeInfo) (z : Value) (size bytes : Nat) (ht : P.underlying t = some (.slice e)) (hi : P.info? e = some i) (hz : i.zero = some z)
   (hsize : i.size = size) (hby : i.bytes = bytes) (hzs : z.cells.size = size) (hsz : 0 < size)
   (v : Value) (n : Nat) (xs : List Value) (hs : a.eval s = v) (hown : w.ownsRow base e size v n xs)
   (B2 : Nat) (v2 : Value) (m : Nat) (news : List Value) (hx : a.eval x = v2) (hown2 : w.ownsRow B2 e size v2 m news) (h1 : ∀ u ∈ news, u.oneCell' = true)
   (h63 : n + m ≤ maxLen) (hbytes : (n + m) * bytes ≤ 140737488355328) (hbase : base ≤ w.heap.size)
   (h : ∀ v' w', w'.ownsRow base e size v' (n + m) (xs ++ news) → w.grownBy w' v.ownBlock → (v'.ownBlock = v.ownBlock ∨ v'.ownBlock = some w.heap.size) → wpList P ops Q rest (a.put o.dst v') w') :
   wpList P ops Q (o :: rest) a w := by
 have ho2 := hown2
 rcases hown2 with ⟨hl, ⟨rfl, rfl⟩ | ⟨g, cap, cur, rfl, _⟩⟩
 · have hn : news = [] := by simpa using hl
   subst hn
   refine wpList_append_own_none hgd s x t ho base e i size ht hi v n xs hs hown hx ?_
   exact h v w (by simpa using hown) (grown_refl w _) (.inl rfl)
 · refine wpList_append_own_at w hgd s x t ho base e i z size bytes ht hi hz hsize hby hzs hsz v n xs hs hown ⟨g, 0, none⟩ m cap news hx hl (fun j u hj => ho2.cells (g := g) rfl j u hj) h1 h63 hbytes hbase ?_
   intro v' w' a b _ c
   exact h v' w' a b c
def EX (x : Nd) : Prop := ∃ (k n : Int) (tx nm ty : ByteArray) (A : Option Addr) (len cap : Nat) (l : List Nd), x = .ex k n tx nm ty (.slice A len cap) l ⟨#[]⟩ 0
theorem ex_one {es : List Nd} (h : ∀ y ∈ es, EX y) : ∀ u ∈ es.flatMap cellsN, u.oneCell' = true := by
 intro u hu
 rw [List.mem_flatMap] at hu
 obtain ⟨x, hx, hu⟩ := hu
 obtain ⟨k, n, tx, nm, ty, A, len, cap, l, rfl⟩ := h x hx
 simp only [cellsN, List.mem_cons, List.not_mem_nil, or_false] at hu
 rcases hu with rfl | rfl | rfl | rfl | rfl | rfl | rfl | rfl <;> rfl
theorem Tryz.infoEx : (Tryz.prog.info? 36).map (fun i => (i.zero, i.size, i.bytes)) = some (some (.agg #[.int .i64 0, .int .i32 0, .string ⟨#[]⟩, .string ⟨#[]⟩, .string ⟨#[]⟩, .slice none 0 0, .string ⟨#[]⟩, .int .i64 0]), 8, 112) := by kernel_rfl
theorem own_base {w : World} {base base' e sz n : Nat} {v : Value} {xs : List Value} (h : w.ownsRow base e sz v n xs) (hb : base' ≤ base) : w.ownsRow base' e sz v n xs :=
 ⟨h.1, h.2.imp id fun ⟨g, cap, cur, a, b, c⟩ => ⟨g, cap, cur, a, Nat.le_trans hb b, c⟩⟩
end
end Go.Proofs.YtnbfajmdfkgebaaGreatDoor
