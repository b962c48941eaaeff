/- Parts of the proof: UsA, Us, At, BxN, Fol. -/
import Derived.Test.YtnbfajmdfkgebaaGreatDoorP9
import Derived.Deep.RegionLaw
import Derived.Deep.RegionWith
set_option maxHeartbeats 8000000
set_option maxRecDepth 100000
namespace Go.Proofs.YtnbfajmdfkgebaaGreatDoor
set_option linter.unusedSimpArgs false
set_option linter.unusedVariables false
section
open Go.RowKit
theorem run_append_full {P : Program} {w : World} (t ty e : TypeId) (i : TypeInfo) (z : Value) (size bytes : Nat) (ht : P.underlying t = some (.slice e)) (hi : P.info? e = some i) (hz : i.zero = some z)
   (hsize : i.size = size) (hby : i.bytes = bytes) (hzs : z.cells.size = size) (hsz : 0 < size)
   (B : Nat) (A : Option Addr) (n : Nat) (xs : List Value) (hown : w.ownsRow B e size (.slice A n n) n xs) (B2 : Nat) (v2 : Value) (m : Nat) (news : List Value) (hown2 : w.ownsRow B2 e size v2 m news)
   (h1 : ∀ u ∈ news, u.oneCell' = true) (h63 : n + m ≤ maxLen) (hbytes : (n + m) * bytes ≤ 140737488355328) (hB : B ≤ w.heap.size) :
   ∃ v' w', (Builtin.append_ #[t, t] ty #[.slice A n n, v2]).run P w = .ok v' w' ∧ w'.ownsRow B e size v' (n + m) (xs ++ news) ∧ w.grownBy w' none ∧ (v'.ownBlock = (Value.slice A n n).ownBlock ∨ ∃ k, v'.ownBlock = some k ∧ w.heap.size ≤ k) := by
 have ho2 := hown2
 have ho1 := hown
 rcases hown2 with ⟨hl, ⟨rfl, rfl⟩ | ⟨g, cap, cur, rfl, _⟩⟩
 · have hn : news = [] := by simpa using hl
   subst hn
   exact ⟨_, _, run_append_owned_none (P := P) w B t ty e i size ht hi _ n xs hown, by simpa using hown, grown_refl w _, .inl rfl⟩
 · have hnews : ∀ j u, news[j]? = some u → w.cell? ((⟨g, 0, none⟩ : Addr).add j) = some u := fun j u hj => ho2.cells (g := g) rfl j u hj
   by_cases hm : m = 0
   · subst hm
     have hn : news = [] := by simpa using hl
     subst hn
     rcases hown with ⟨hlx, ⟨hv, hn0⟩ | ⟨g1, cap1, cur1, hv, _⟩⟩
     · injection hv with hA hn1 hn2
       subst hA hn0
       have hx0 : xs = [] := by simpa using hlx
       subst hx0
       obtain ⟨v', w', hr, r1, r2, r3⟩ := run_append_own (P := P) (w := w) w.heap.size t ty e i z size bytes ht hi hz hsize hby hzs hsz (.slice none 0 0) 0 [] (World.ownsRow_nil w _ e size) ⟨g, 0, none⟩ 0 cap [] hl hnews h1 h63 hbytes (Nat.le_refl _)
       refine ⟨v', w', hr, own_base r1 hB, r2, ?_⟩
       have := r3.2 ⟨rfl, rfl⟩
       subst this
       exact .inl rfl
     · injection hv with hA hn1 hn2
       subst hA
       have hr := run_append_room_cells (P := P) (w := w) t ty e i ht hi g1 0 n n ⟨g, 0, none⟩ 0 cap [] (by simp) hnews h1 (Nat.le_refl _) (by simp) (by simp)
       exact ⟨_, _, hr, by simpa [World.setCells] using ho1, by simpa [World.setCells] using grown_refl w none, .inl rfl⟩
   · cases A with
     | none =>
       rcases hown with ⟨hlx, ⟨hv, hn0⟩ | ⟨g1, cap1, cur1, hv, _⟩⟩
       · subst hn0
         have hx0 : xs = [] := by simpa using hlx
         subst hx0
         obtain ⟨v', w', hr, r1, r2, r3⟩ := run_append_own (P := P) (w := w) w.heap.size t ty e i z size bytes ht hi hz hsize hby hzs hsz (.slice none 0 0) 0 [] (World.ownsRow_nil w _ e size) ⟨g, 0, none⟩ m cap news hl hnews h1 h63 hbytes (Nat.le_refl _)
         refine ⟨v', w', hr, own_base r1 hB, r2, ?_⟩
         cases hv' : v'.ownBlock with
         | none => exact .inl rfl
         | some k => exact .inr ⟨k, rfl, (r1.lt k hv').1⟩
       · cases hv
     | some b =>
       have hb : b.spot = none ∧ b.off = 0 := by
         rcases hown with ⟨_, ⟨hv, _⟩ | ⟨g1, cap1, cur1, hv, _⟩⟩
         · cases hv
         · injection hv with hA; injection hA with hA; subst hA; exact ⟨rfl, rfl⟩
       obtain ⟨v', w', hr, r1, r2⟩ := run_append_arg_grows (P := P) (w := w) t ty e i z size bytes ht hi hz hsize hby hzs hsz b n n xs ho1.1 (fun j u hj => by
         have := ho1.cells (g := b.block) rfl j u hj
         obtain ⟨bb, bo, bs⟩ := b
         simp only at hb
         obtain ⟨rfl, rfl⟩ := hb
         exact this) ⟨g, 0, none⟩ m cap news hl hnews (by omega) h63 hbytes
       refine ⟨v', w', hr, own_base r1 hB, r2, ?_⟩
       cases hv' : v'.ownBlock with
       | none =>
         rcases r1.2 with ⟨_, hn⟩ | ⟨g', c', cu', rfl, _⟩
         · omega
         · cases hv'
       | some k => exact .inr ⟨k, rfl, (r1.lt k hv').1⟩
theorem step_append_full {P : Program} {ops : Array Oper} {o : Oper} {a : Act} {w : World} {K : Act → World → Prop} {Q : Exit → Act → World → Prop} {E : Prop}
   (hg : o.guard = none) (s x : Operand) (t : TypeId) (hop : o.op = Op.call { callee := Callee.builtin Builtin.append, args := #[s, x], argTypes := #[t, t] })
   (e : TypeId) (i : TypeInfo) (z : Value) (size bytes : Nat) (ht : P.underlying t = some (.slice e)) (hi : P.info? e = some i) (hz : i.zero = some z)
   (hsize : i.size = size) (hby : i.bytes = bytes) (hzs : z.cells.size = size) (hsz : 0 < size)
   (B : Nat) (A : Option Addr) (n : Nat) (xs : List Value) (hs : a.eval s = .slice A n n) (hown : w.ownsRow B e size (.slice A n n) n xs) (B2 : Nat) (v2 : Value) (m : Nat) (news : List Value) (hx : a.eval x = v2) (hown2 : w.ownsRow B2 e size v2 m news)
   (h1 : ∀ u ∈ news, u.oneCell' = true) (h63 : n + m ≤ maxLen) (hbytes : (n + m) * bytes ≤ 140737488355328) (hB : B ≤ w.heap.size)
   (hK : ∀ v' w', w'.ownsRow B e size v' (n + m) (xs ++ news) → w.grownBy w' none → (v'.ownBlock = (Value.slice A n n).ownBlock ∨ ∃ k, v'.ownBlock = some k ∧ w.heap.size ≤ k) → K (a.put o.dst v') w') :
   if Region.wanted o (yielded ops a.tmps) = true then Oper.wp P o a w K Q else E := by
 have hw : Region.wanted o (yielded ops a.tmps) = true := by simp [Region.wanted, hg]
 rw [if_pos hw]
 obtain ⟨v', w', hr, r1, r2, r3⟩ := run_append_full (P := P) t o.type e i z size bytes ht hi hz hsize hby hzs hsz B A n xs hown B2 v2 m news hown2 h1 h63 hbytes hB
 unfold Oper.wp
 simp [execOp, hop, resolve, invoke, builtin, hs, hx, hr, Result.andThen]
 exact hK v' w' r1 r2 r3
theorem OwnR.app2 {B B2 : Nat} {r : Option Nat} {w w5 w' : World} {v v2 v' : Value} {xs ys : List Nd} (h : OwnR B r w v xs) (h2 : OwnE B2 w5 v2 ys) (hB : B ≤ B2) (hm : xs.length + ys.length ≤ 2000000) (hr : ∀ g, r = some g → g < B2)
   (ho : w'.ownsRow B 36 8 v' (xs.length + ys.length) (xs.flatMap cellsN ++ ys.flatMap cellsN))
   (k1 : ∀ k j u, B ≤ k → k < w.heap.size → some k ≠ v.ownBlock → w.cell? ⟨k, j, none⟩ = some u → w'.cell? ⟨k, j, none⟩ = some u ∧ some k ≠ v'.ownBlock)
   (k2 : ∀ k j u, B2 ≤ k → k < w5.heap.size → w5.cell? ⟨k, j, none⟩ = some u → w'.cell? ⟨k, j, none⟩ = some u ∧ some k ≠ v'.ownBlock) : OwnR B r w' v' (xs ++ ys) := by
 refine ⟨by simpa using ho, fun y hy => ?_, fun ws hs => KdL_append (h.2.2.1 ws fun k j u hk hne hne2 hu => ?_) (h2.2.2.1 ws fun k j u hk hne hu => ?_), by simpa using hm⟩
 · rcases List.mem_append.1 hy with hy | hy
   · exact h.2.1 y hy
   · exact h2.2.1 y hy
 · have hlt : k < w.heap.size := World.block_lt_of_cell? w (a := ⟨k, j, none⟩) hu
   exact hs k j u hk (k1 k j u hk hlt hne hu).2 hne2 (k1 k j u hk hlt hne hu).1
 · have hlt : k < w5.heap.size := World.block_lt_of_cell? w5 (a := ⟨k, j, none⟩) hu
   exact hs k j u (Nat.le_trans hB hk) (k2 k j u hk hlt hu).2 (fun e => by have := hr k e.symm; omega) (k2 k j u hk hlt hu).1
end
section
open Go.RowKit
theorem name_len (s : RS) : s.nameV.size ≤ maxLen := by
 unfold RS.nameV byV RS.calledV
 unfold maxLen
 split
 · split
   · rename_i h; omega
   · exact Nat.zero_le _
 · exact Nat.zero_le _
theorem class_len (s : RS) : s.classV.size ≤ maxLen := by
 unfold RS.classV byV RS.calledV
 unfold maxLen
 split
 · split
   · rename_i h; omega
   · exact Nat.zero_le _
 · exact Nat.zero_le _
theorem cell_past {w w' w'' : World} {b1 b2 k j : Nat} {u : Value} (h1 : w.grownBy w' (some b1)) (h2 : w'.grownBy w'' (some b2)) (hu : w.cell? ⟨k, j, none⟩ = some u) (n1 : k ≠ b1) (n2 : k ≠ b2) : w''.cell? ⟨k, j, none⟩ = some u :=
 h2.cell (h1.cell hu (by simpa using n1)) (by simpa using n2)
theorem below_none {w w' : World} (h : w.grownBy w' none) : Below w.heap.size w w' := (Below.refl _ w).grown h (Nat.le_refl _) (by simp)
theorem us_c1 {ys zs : List Nd} {l : List Nd} {a b : Nat} (hl : ys.length ≤ 1) (hz : bareL zs = bareL l) (hw : l.length ≤ a + 1) (hf : b ≤ 1000000) (ha : a ≤ b - 1) : ys.length + zs.length ≤ maxLen := by
 have := len_of_bare hz
 unfold maxLen; omega
theorem us_c2 {ys zs : List Nd} {l : List Nd} {a b : Nat} (hl : ys.length ≤ 1) (hz : bareL zs = bareL l) (hw : l.length ≤ a + 1) (hf : b ≤ 1000000) (ha : a ≤ b - 1) : (ys.length + zs.length) * 112 ≤ 140737488355328 := by
 have := len_of_bare hz
 omega
theorem used_no (n : Nat) (IH : SpecR n) (W0 w : World) (B : Nat) (ro : Option Nat) (c : Nat) (s : RS) (p k : Int) (ty : ByteArray) (A : Option Addr) (xs ys : List Nd) (hv : Vars W0) (h : Rd W0 c s w) (hn : enough (n + 1) (.used p k ty xs) s) (ho : OwnR B ro w (.slice A ys.length ys.length) ys) (hbr : bareL ys = bareL xs) (hcB : c < B) (hBw : B ≤ w.heap.size) (hl : ys.length ≤ 1) (hty : ty.size ≤ maxLen) (hro : ∀ g, ro = some g → g < w.heap.size ∧ (Value.slice A ys.length ys.length).ownBlock ≠ some g) (hsee : s.name.sees 0 sOpen = false) :
   Calls Tryz.prog 133 #[.pointer (some ⟨c, 0, none⟩), .agg #[.int .i64 0, .int .i32 0, .string ⟨#[]⟩, .string ⟨#[]⟩, .string ty, .slice A ys.length ys.length, .string ⟨#[]⟩, .int .i64 0], .int .i64 p, .int .i64 k] w (UsC W0 B ro c w (run (n + 1) (.used p k ty xs) s)) := by
 have hR : run (n + 1) (.used p k ty xs) s = ([mkE p 0 E0 s.nameV ty xs], s.name) := by simp only [run, hsee]; simp
 have hlt := h.lt
 have hle0 := h.le
 have hnm := name_len s
 obtain ⟨nm, hnme⟩ : ∃ nm, s.nameV = nm := ⟨_, rfl⟩
 rw [hnme] at hnm
 obtain ⟨W1, hW1⟩ : ∃ W1, (w.alloc (.cells #[.int .i64 0, .int .i32 0, .string ⟨#[]⟩, .string ⟨#[]⟩, .string ty, .slice A ys.length ys.length, .string ⟨#[]⟩, .int .i64 0] 36)).alloc (.cells #[.int .i64 0, .int .i32 0, .string ⟨#[]⟩, .string ⟨#[]⟩, .string ⟨#[]⟩, .slice none 0 0, .string ⟨#[]⟩, .int .i64 0] 36) = W1 := ⟨_, rfl⟩
 have hb : Below w.heap.size w W1 := by rw [← hW1]; exact ((Below.refl _ w).alloc (Nat.le_refl _) _).alloc (by simp) _
 have hx1 : Bx W1 w.heap.size #[.int .i64 0, .int .i32 0, .string ⟨#[]⟩, .string ⟨#[]⟩, .string ty, .slice A ys.length ys.length, .string ⟨#[]⟩, .int .i64 0] 36 := by rw [← hW1]; exact (Bx.new _ _ _).next ((Below.refl _ _).alloc (Nat.le_refl _) _)
 have hx2 : Bx W1 (w.heap.size + 1) #[.int .i64 0, .int .i32 0, .string ⟨#[]⟩, .string ⟨#[]⟩, .string ⟨#[]⟩, .slice none 0 0, .string ⟨#[]⟩, .int .i64 0] 36 := by
   rw [← hW1]
   have := Bx.new (w.alloc (.cells #[.int .i64 0, .int .i32 0, .string ⟨#[]⟩, .string ⟨#[]⟩, .string ty, .slice A ys.length ys.length, .string ⟨#[]⟩, .int .i64 0] 36)) #[.int .i64 0, .int .i32 0, .string ⟨#[]⟩, .string ⟨#[]⟩, .string ⟨#[]⟩, .slice none 0 0, .string ⟨#[]⟩, .int .i64 0] 36
   simpa using this
 have HM0 := Lib.hid (Mv.below hb h)
 have HN := Lib.hid (nameR_any W0 W1 c s HM0.out.2)
 rw [hnme] at HN
 have HX1 := Lib.hid hx1
 have HX2 := Lib.hid hx2
 have HO := Lib.hid ho
 clear hx1 hx2 hb ho
 obtain ⟨s1, hs1⟩ : ∃ s1, s.name = s1 := ⟨_, rfl⟩
 rw [hs1] at HN hsee
 rw [hR]
 rw [hnme, hs1]
 clear hnme hs1 hR hn IH hv
 go_enter Tryz.func133, Tryz.ntmps133
 go_wp2_with fail
 refine HN.out.mono ?_
 clear HN hW1
 rintro e w2 ⟨rfl, hm⟩
 have hs2 := hm.1.size
 have hs1' := HM0.out.1.size
 have hlW : w.heap.size + 1 < W1.heap.size := HX2.out.lt
 have hy1 : Bx w2 w.heap.size #[.int .i64 0, .int .i32 0, .string ⟨#[]⟩, .string ⟨#[]⟩, .string ty, .slice A ys.length ys.length, .string ⟨#[]⟩, .int .i64 0] 36 := Bx.grown HX1.out hm.1 (by omega)
 have hy2 := Lib.hid (Bx.grown HX2.out hm.1 (by omega))
 obtain ⟨W3, hW3⟩ : ∃ W3, (w2.setCell ⟨w.heap.size, 0, none⟩ (.int .i64 p)).setCell ⟨w.heap.size, 3, none⟩ (.string nm) = W3 := ⟨_, rfl⟩
 have hg3 : w2.grownBy W3 (some w.heap.size) := by rw [← hW3]; exact (grown_set_at _ _ _ _).trans (grown_set_at _ _ _ _)
 have hz1 : Bx W3 w.heap.size #[.int .i64 p, .int .i32 0, .string ⟨#[]⟩, .string nm, .string ty, .slice A ys.length ys.length, .string ⟨#[]⟩, .int .i64 0] 36 := by
   rw [← hW3]
   have := (hy1.set 0 (.int .i64 p)).set 3 (.string nm)
   simpa using this
 have hz2 := Lib.hid (Bx.grown hy2.out hg3 (by omega))
 have HM3 := Lib.hid (Mv.over (Below.refl _ _) (HM0.out.trans hm) hg3 (Nat.le_refl _) hlt)
 have HZ1 := Lib.hid hz1
 have HS := Lib.hid (sees_any W0 W3 c s1 sOpen HM3.out.2)
 rw [hsee] at HS
 obtain ⟨r0, r1, r2, r3, r4, r5, r6, r7⟩ := hy1.all_8
 have g0 := hy1.fro 0; have g3 := hy1.fro 3
 have hs23 := hg3.size
 clear hm hy1 hy2 hg3 hz1
 go_wp2_with fail
 refine HS.out.mono ?_
 clear HS hW3
 rintro e w3 ⟨rfl, rfl⟩
 have hs3 := HM3.out.1.size
 clear r0 r1 r2 r3 r4 r5 r6 r7 g0 g3
 obtain ⟨r0, r1, r2, r3, r4, r5, r6, r7⟩ := HZ1.out.all_8
 have hx2 := hz2.out
 obtain ⟨a0, a1, a2, a3, a4, a5, a6, a7⟩ := hx2.all_8
 have g0 := hx2.fro 0; have g1 := hx2.fro 1; have g2 := hx2.fro 2; have g3 := hx2.fro 3; have g4 := hx2.fro 4; have g5 := hx2.fro 5; have g6 := hx2.fro 6; have g7 := hx2.fro 7
 have HG := Lib.hid (grown_8 W3 (w.heap.size + 1) (.int .i64 p) (.int .i32 0) (.string ⟨#[]⟩) (.string nm) (.string ty) (.slice A ys.length ys.length) (.string ⟨#[]⟩) (.int .i64 0))
 clear hx2
 go_wp2_with fail
 obtain ⟨z0, z1, z2, z3, z4, z5, z6, z7⟩ := (hz2.out.to_8 (.int .i64 p) (.int .i32 0) (.string ⟨#[]⟩) (.string nm) (.string ty) (.slice A ys.length ys.length) (.string ⟨#[]⟩) (.int .i64 0)).all_8
 (try simp only [Exit.inBlock, Exit.then])
 refine bodyPost_ret (v := .agg #[.int .i64 p, .int .i32 0, .string ⟨#[]⟩, .string nm, .string ty, .slice A ys.length ys.length, .string ⟨#[]⟩, .int .i64 0]) (by simp [results, Tryz.results133, go_sem, z0, z1, z2, z3, z4, z5, z6, z7]) rfl ?_
 have hmv := Mv.over (Below.refl _ _) HM3.out HG.out (by omega) hlt
 exact ⟨_, rfl, (HO.out.grown hmv.1 hcB).node (fun g hg => (hro g hg).2) p 0 ⟨#[]⟩ nm ty ⟨Nat.zero_le _, hnm, hty⟩ (mk_bare hbr _ _ _ _ _), hmv⟩
theorem used_yes (n : Nat) (IH : SpecR n) (W0 w : World) (B : Nat) (ro : Option Nat) (c : Nat) (s : RS) (p k : Int) (ty : ByteArray) (A : Option Addr) (xs ys : List Nd) (hv : Vars W0) (h : Rd W0 c s w) (hn : enough (n + 1) (.used p k ty xs) s) (ho : OwnR B ro w (.slice A ys.length ys.length) ys) (hbr : bareL ys = bareL xs) (hcB : c < B) (hBw : B ≤ w.heap.size) (hl : ys.length ≤ 1) (hty : ty.size ≤ maxLen) (hro : ∀ g, ro = some g → g < w.heap.size ∧ (Value.slice A ys.length ys.length).ownBlock ≠ some g) (hsee : s.name.sees 0 sOpen = true) :
   Calls Tryz.prog 133 #[.pointer (some ⟨c, 0, none⟩), .agg #[.int .i64 0, .int .i32 0, .string ⟨#[]⟩, .string ⟨#[]⟩, .string ty, .slice A ys.length ys.length, .string ⟨#[]⟩, .int .i64 0], .int .i64 p, .int .i64 k] w (UsC W0 B ro c w (run (n + 1) (.used p k ty xs) s)) := by
 obtain ⟨q, hq⟩ : ∃ q, run n .args s.name = q := ⟨_, rfl⟩
 have hR : run (n + 1) (.used p k ty xs) s = ([mkE k 0 E0 s.nameV ty (xs ++ q.1)], q.2) := by simp only [run, hsee, hq]; simp
 have hle := sees_len hsee
 have hln := len_name s
 have hen : enough n .args s.name := by simp only [enough, Md.rank] at hn ⊢; omega
 have hwide : q.1.length ≤ s.name.len + 1 := by have := run_wide n .args s.name; rw [hq] at this; exact this
 have hfew := h.few
 have hlt := h.lt
 have hle0 := h.le
 have hnm := name_len s
 obtain ⟨nm, hnme⟩ : ∃ nm, s.nameV = nm := ⟨_, rfl⟩
 rw [hnme] at hnm
 obtain ⟨W1, hW1⟩ : ∃ W1, (w.alloc (.cells #[.int .i64 0, .int .i32 0, .string ⟨#[]⟩, .string ⟨#[]⟩, .string ty, .slice A ys.length ys.length, .string ⟨#[]⟩, .int .i64 0] 36)).alloc (.cells #[.int .i64 0, .int .i32 0, .string ⟨#[]⟩, .string ⟨#[]⟩, .string ⟨#[]⟩, .slice none 0 0, .string ⟨#[]⟩, .int .i64 0] 36) = W1 := ⟨_, rfl⟩
 have hb : Below w.heap.size w W1 := by rw [← hW1]; exact ((Below.refl _ w).alloc (Nat.le_refl _) _).alloc (by simp) _
 have hx1 : Bx W1 w.heap.size #[.int .i64 0, .int .i32 0, .string ⟨#[]⟩, .string ⟨#[]⟩, .string ty, .slice A ys.length ys.length, .string ⟨#[]⟩, .int .i64 0] 36 := by rw [← hW1]; exact (Bx.new _ _ _).next ((Below.refl _ _).alloc (Nat.le_refl _) _)
 have hx2 : Bx W1 (w.heap.size + 1) #[.int .i64 0, .int .i32 0, .string ⟨#[]⟩, .string ⟨#[]⟩, .string ⟨#[]⟩, .slice none 0 0, .string ⟨#[]⟩, .int .i64 0] 36 := by
   rw [← hW1]
   have := Bx.new (w.alloc (.cells #[.int .i64 0, .int .i32 0, .string ⟨#[]⟩, .string ⟨#[]⟩, .string ty, .slice A ys.length ys.length, .string ⟨#[]⟩, .int .i64 0] 36)) #[.int .i64 0, .int .i32 0, .string ⟨#[]⟩, .string ⟨#[]⟩, .string ⟨#[]⟩, .slice none 0 0, .string ⟨#[]⟩, .int .i64 0] 36
   simpa using this
 have HM0 := Lib.hid (Mv.below hb h)
 have HN := Lib.hid (nameR_any W0 W1 c s HM0.out.2)
 rw [hnme] at HN
 have HX1 := Lib.hid hx1
 have HX2 := Lib.hid hx2
 have HO := Lib.hid ho
 clear hx1 hx2 hb ho
 obtain ⟨s1, hs1⟩ : ∃ s1, s.name = s1 := ⟨_, rfl⟩
 rw [hs1] at HN hsee
 rw [hs1] at hq hen hwide hle hln
 have HA : Hid (∀ w', Rd W0 c s1 w' → Calls Tryz.prog 150 #[.pointer (some ⟨c, 0, none⟩)] w' (LsC W0 c w' q)) := by
   show ∀ w', _
   intro w' h'; have := IH W0 w' c _ hv h' hen; rw [hq] at this; exact this
 rw [hR]
 rw [hnme]
 clear hnme hs1 hR hn IH hv hq hen h
 go_enter Tryz.func133, Tryz.ntmps133
 go_wp2_with fail
 refine HN.out.mono ?_
 clear HN hW1
 rintro e w2 ⟨rfl, hm⟩
 have hs2 := hm.1.size
 have hs1' := HM0.out.1.size
 have hlW : w.heap.size + 1 < W1.heap.size := HX2.out.lt
 have hy1 : Bx w2 w.heap.size #[.int .i64 0, .int .i32 0, .string ⟨#[]⟩, .string ⟨#[]⟩, .string ty, .slice A ys.length ys.length, .string ⟨#[]⟩, .int .i64 0] 36 := Bx.grown HX1.out hm.1 (by omega)
 have hy2 := Lib.hid (Bx.grown HX2.out hm.1 (by omega))
 obtain ⟨W3, hW3⟩ : ∃ W3, (w2.setCell ⟨w.heap.size, 0, none⟩ (.int .i64 p)).setCell ⟨w.heap.size, 3, none⟩ (.string nm) = W3 := ⟨_, rfl⟩
 have hg3 : w2.grownBy W3 (some w.heap.size) := by rw [← hW3]; exact (grown_set_at _ _ _ _).trans (grown_set_at _ _ _ _)
 have hz1 : Bx W3 w.heap.size #[.int .i64 p, .int .i32 0, .string ⟨#[]⟩, .string nm, .string ty, .slice A ys.length ys.length, .string ⟨#[]⟩, .int .i64 0] 36 := by
   rw [← hW3]
   have := (hy1.set 0 (.int .i64 p)).set 3 (.string nm)
   simpa using this
 have hz2 := Lib.hid (Bx.grown hy2.out hg3 (by omega))
 have HM3 := Lib.hid (Mv.over (Below.refl _ _) (HM0.out.trans hm) hg3 (Nat.le_refl _) hlt)
 have HZ1 := Lib.hid hz1
 have HS := Lib.hid (sees_any W0 W3 c s1 sOpen HM3.out.2)
 rw [hsee] at HS
 obtain ⟨r0, r1, r2, r3, r4, r5, r6, r7⟩ := hy1.all_8
 have g0 := hy1.fro 0; have g3 := hy1.fro 3
 have hs23 := hg3.size
 clear hm hy1 hy2 hg3 hz1
 go_wp2_with fail
 refine HS.out.mono ?_
 clear HS hW3
 rintro e w3 ⟨rfl, rfl⟩
 have hs3 := HM3.out.1.size
 clear r0 r1 r2 r3 r4 r5 r6 r7 g0 g3
 obtain ⟨W4, hW4⟩ : ∃ W4, W3.setCell ⟨w.heap.size, 0, none⟩ (.int .i64 k) = W4 := ⟨_, rfl⟩
 have hg4 : W3.grownBy W4 (some w.heap.size) := by rw [← hW4]; exact grown_set_at _ _ _ _
 have hd1 : Bx W4 w.heap.size #[.int .i64 k, .int .i32 0, .string ⟨#[]⟩, .string nm, .string ty, .slice A ys.length ys.length, .string ⟨#[]⟩, .int .i64 0] 36 := by
   rw [← hW4]
   have := HZ1.out.set 0 (.int .i64 k)
   simpa using this
 have HD2 := Lib.hid (Bx.grown hz2.out hg4 (by omega))
 have HM4 := Lib.hid (Mv.over (Below.refl _ _) HM3.out hg4 (Nat.le_refl _) hlt)
 have HD1 := Lib.hid hd1
 obtain ⟨i0, hi, hz0, hzz1, hzz2⟩ := info_parts Tryz.infoEx
 obtain ⟨r0, r1, r2, r3, r4, r5, r6, r7⟩ := HZ1.out.all_8
 have g0 := HZ1.out.fro 0
 obtain ⟨d0, d1, d2, d3, d4, d5, d6, d7⟩ := HD1.out.all_8
 have hs4 := hg4.size
 have hsd : W4.drew.heap.size = W4.heap.size := rfl
 clear hg4 hd1
 go_wp2_with fail
 clear hW4 r0 r1 r2 r3 r4 r5 r6 r7 g0
 go_region_law (first
   | (refine step_append_full rfl (.tmp 19) (.tmp 21) 34 rfl 36 i0 _ 8 112 Tryz.underlying34 hi hz0 hzz1 hzz2 rfl (by decide) B A ys.length _ rfl HOY.out.1 W4.drew.heap.size _ _ _ rfl HO2.out.1 (ex_one HO2.out.2.1) HC1.out HC2.out HC3.out ?_; intro v3 w6 ho6 hg6 hat6; obtain ⟨A3, cap3, rfl, _⟩ := own_form ho6; have HO6 := Lib.hid ho6; have HG6 := Lib.hid hg6; have HAT6 := Lib.hid hat6; have f5 := (Bx.next HB15.out (below_none hg6)).fro 5; have c5 := (Bx.next HB15.out (below_none hg6)).all_8.2.2.2.2.2.1; clear ho6 hg6 hat6)
   | (go_simp; go_wp2_with (go_at_call 150; refine (HA.out _ HM4.out.2.drew).mono ?_; rintro e w5 ⟨v2, zs, rfl, ho2, hbz, hm⟩; have HO2 := Lib.hid ho2; obtain ⟨A2, cap2, rfl⟩ := ho2.form; have HBZ := Lib.hid hbz; have HM5 := Lib.hid hm; have HB15 := Lib.hid (Bx.grown (w := W4.drew) HD1.out hm.1 (Nat.ne_of_gt hlt)); have HB25 := Lib.hid (Bx.grown (w := W4.drew) HD2.out hm.1 (by omega)); have e5 := HB15.out.all_8.2.2.2.2.2.1; have HMT := Lib.hid ((HM4.out.trans (Mv.below ((Below.refl _ _).drew) HM4.out.2)).trans hm); have HOY := Lib.hid (HO.out.grown HMT.out.1 hcB); have HC1 := Lib.hid (us_c1 hl hbz hwide hfew hln); have HC2 := Lib.hid (us_c2 hl hbz hwide hfew hln); have HC3 := Lib.hid (Nat.le_trans hBw HMT.out.1.size); clear ho2 hbz hm)))
 all_goals
   obtain ⟨W7, hW7⟩ : ∃ W7, w6.setCell ⟨w.heap.size, 5, none⟩ (.slice A3 (ys.length + zs.length) cap3) = W7 := ⟨_, rfl⟩
   have hg7 : w6.grownBy W7 (some w.heap.size) := by rw [← hW7]; exact grown_set_at _ _ _ _
   have hq1 : Bx W7 w.heap.size #[.int .i64 k, .int .i32 0, .string ⟨#[]⟩, .string nm, .string ty, .slice A3 (ys.length + zs.length) cap3, .string ⟨#[]⟩, .int .i64 0] 36 := by
     rw [← hW7]
     have := (Bx.next HB15.out (below_none HG6.out)).set 5 (.slice A3 (ys.length + zs.length) cap3)
     simpa using this
   have hq2 := Lib.hid (Bx.grown (Bx.next HB25.out (below_none HG6.out)) hg7 (by omega))
   have HG7 := Lib.hid hg7
   obtain ⟨r0, r1, r2, r3, r4, r5, r6, r7⟩ := hq1.all_8
   have hx2 := hq2.out
   obtain ⟨a0, a1, a2, a3, a4, a5, a6, a7⟩ := hx2.all_8
   have g0 := hx2.fro 0; have g1 := hx2.fro 1; have g2 := hx2.fro 2; have g3 := hx2.fro 3; have g4 := hx2.fro 4; have g5 := hx2.fro 5; have g6 := hx2.fro 6; have g7 := hx2.fro 7
   have HG := Lib.hid (grown_8 W7 (w.heap.size + 1) (.int .i64 k) (.int .i32 0) (.string ⟨#[]⟩) (.string nm) (.string ty) (.slice A3 (ys.length + zs.length) cap3) (.string ⟨#[]⟩) (.int .i64 0))
   have hs5 : W4.heap.size ≤ w5.heap.size := HM5.out.1.size
   have hs6 := HG6.out.size
   clear hx2 hq1 hg7 c5 f5 e5 d0 d1 d2 d3 d4 d5 d6 d7
   go_wp2_with fail
   obtain ⟨z0, z1, z2, z3, z4, z5, z6, z7⟩ := (hq2.out.to_8 (.int .i64 k) (.int .i32 0) (.string ⟨#[]⟩) (.string nm) (.string ty) (.slice A3 (ys.length + zs.length) cap3) (.string ⟨#[]⟩) (.int .i64 0)).all_8
   (try simp only [Exit.inBlock, Exit.then])
   refine bodyPost_ret (v := .agg #[.int .i64 k, .int .i32 0, .string ⟨#[]⟩, .string nm, .string ty, .slice A3 (ys.length + zs.length) cap3, .string ⟨#[]⟩, .int .i64 0]) (by simp [results, Tryz.results133, go_sem, z0, z1, z2, z3, z4, z5, z6, z7]) rfl ?_
   have hmv := Mv.over (Below.refl _ _) (Mv.over (Below.refl _ _) (HMT.out.trans (Mv.below (below_none HG6.out) HMT.out.2)) HG7.out (Nat.le_refl _) hlt) HG.out (by omega) hlt
   have hown : ∀ b, b < W4.heap.size → w.heap.size ≤ b → (Value.slice A3 (ys.length + zs.length) cap3).ownBlock = none ∨ (Value.slice A3 (ys.length + zs.length) cap3).ownBlock ≠ some b := by
     intro b hb hb'
     refine .inr fun e => ?_
     rcases HAT6.out with e2 | ⟨k', e2, hk'⟩
     · rw [e] at e2; have := (HO.out.lt b e2.symm).2; omega
     · rw [e] at e2; injection e2 with e2; omega
   have hoe := OwnR.app2 HO.out HO2.out (by omega) (by have := len_of_bare HBZ.out; omega) (fun g hg => by have := (hro g hg).1; omega) ((HO6.out.kept HG7.out (hown _ (by omega) (Nat.le_refl _))).kept HG.out (hown _ (by omega) (by omega)))
     (fun k' j u hk hlt' hne hu => ⟨hmv.1.cell (a := ⟨k', j, none⟩) hu (by simp; omega), fun e => by
       rcases HAT6.out with e2 | ⟨k2, e2, hk2⟩
       · exact hne (e.trans e2)
       · rw [e2] at e; injection e with e; omega⟩)
     (fun k' j u hk hlt' hu => ⟨cell_past HG7.out HG.out (HG6.out.cell (a := ⟨k', j, none⟩) hu (by simp)) (by omega) (by omega), fun e => by
       rcases HAT6.out with e2 | ⟨k2, e2, hk2⟩
       · have := (HO.out.lt k' (e.trans e2).symm).2; omega
       · rw [e2] at e; injection e with e; omega⟩)
   have hlen : (ys ++ zs).length = ys.length + zs.length := List.length_append
   have hne7 : ∀ g, ro = some g → (Value.slice A3 (ys.length + zs.length) cap3).ownBlock ≠ some g := by
     intro g hg e
     have h7 := hro g hg
     rcases HAT6.out with e2 | ⟨k', e2, hk'⟩
     · rw [e] at e2; exact h7.2 e2.symm
     · rw [e] at e2; injection e2 with e2; omega
   exact ⟨.ex k 0 ⟨#[]⟩ nm ty (.slice A3 (ys.length + zs.length) cap3) (ys ++ zs) ⟨#[]⟩ 0, rfl, hoe.node hne7 k 0 ⟨#[]⟩ nm ty ⟨Nat.zero_le _, hnm, hty⟩ (mk_bare (by rw [bareL_append, bareL_append, hbr, HBZ.out]) _ _ _ _ _), hmv⟩
theorem used_of (n : Nat) (IH : SpecR n) : SpecU (n + 1) := by
 intro W0 w B ro c s p k ty v xs ys hv h hn ho hbr hcB hBw hfull hl hty hro
 obtain ⟨A, rfl⟩ := hfull
 cases hsee : s.name.sees 0 sOpen with
 | false => exact used_no n IH W0 w B ro c s p k ty A xs ys hv h hn ho hbr hcB hBw hl hty hro hsee
 | true => exact used_yes n IH W0 w B ro c s p k ty A xs ys hv h hn ho hbr hcB hBw hl hty hro hsee
end
section
open Go.RowKit
theorem take_false (W0 w : World) (c : Nat) (s : RS) (p : ByteArray) (h : Rd W0 c s w) (hr : s.sees 0 p = false) : Calls Tryz.prog 57 #[.pointer (some ⟨c, 0, none⟩), .string p] w fun e w' => e = .returned (.bool false) ∧ w = w' := by
 have HA := Lib.hid (sees_any W0 w c s p h)
 rw [hr] at HA
 clear h hr
 go_enter Tryz.func57, Tryz.ntmps57
 go_wp2_with (go_at_call 83; refine HA.out.mono ?_; clear HA; rintro e w1 ⟨rfl, rfl⟩)
 go_ret
 exact ⟨rfl, rfl⟩
theorem take_true (W0 w : World) (c : Nat) (s : RS) (p : ByteArray) (h : Rd W0 c s w) (hr : s.sees 0 p = true) : Calls Tryz.prog 57 #[.pointer (some ⟨c, 0, none⟩), .string p] w fun e w' => e = .returned (.bool true) ∧ Mv W0 c s.skip w w' := by
 have HA := Lib.hid (sees_any W0 w c s p h)
 rw [hr] at HA
 have HS := Lib.hid (skip_any W0 w c s h (sees_ne hr))
 clear h hr
 go_enter Tryz.func57, Tryz.ntmps57
 go_wp2_with (first | (go_at_call 83; refine HA.out.mono ?_; clear HA; rintro e w1 ⟨rfl, rfl⟩) | (go_at_call 72; refine HS.out.mono ?_; clear HS; rintro e w1 ⟨rfl, hm⟩; have HM := Lib.hid hm; clear hm))
 go_ret
 exact ⟨rfl, HM.out⟩
theorem ofClass_of (n : Nat) (IH : SpecU n) (W0 w : World) (c : Nat) (s : RS) (hv : Vars W0) (h : Rd W0 c s w) (hen : enough n (.used 9 13 s.classV []) (s.class.need sCols)) :
   Calls Tryz.prog 148 #[.pointer (some ⟨c, 0, none⟩)] w (ExC W0 c w (run n (.used 9 13 s.classV []) (s.class.need sCols))) := by
 obtain ⟨r, hr⟩ : ∃ r, run n (.used 9 13 s.classV []) (s.class.need sCols) = r := ⟨_, rfl⟩
 rw [hr]
 have hcl := class_len s
 obtain ⟨cl, hcle⟩ : ∃ cl, s.classV = cl := ⟨_, rfl⟩
 rw [hcle] at hcl hr hen
 have hlt := h.lt
 have hle0 := h.le
 obtain ⟨W1, hW1⟩ : ∃ W1, w.alloc (.cells #[.int .i64 0, .int .i32 0, .string ⟨#[]⟩, .string ⟨#[]⟩, .string ⟨#[]⟩, .slice none 0 0, .string ⟨#[]⟩, .int .i64 0] 36) = W1 := ⟨_, rfl⟩
 have hb : Below w.heap.size w W1 := by rw [← hW1]; exact (Below.refl _ w).alloc (Nat.le_refl _) _
 have hx : Bx W1 w.heap.size #[.int .i64 0, .int .i32 0, .string ⟨#[]⟩, .string ⟨#[]⟩, .string ⟨#[]⟩, .slice none 0 0, .string ⟨#[]⟩, .int .i64 0] 36 := by rw [← hW1]; exact Bx.new _ _ _
 have hz : W1.heap.size = w.heap.size + 1 := by rw [← hW1]; simp
 have HM0 := Lib.hid (Mv.below hb h)
 have HX0 := Lib.hid hx
 clear hb hx
 have HC := Lib.hid (classR_any W0 W1 c s HM0.out.2)
 rw [hcle] at HC
 have HN : Hid (∀ w', Rd W0 c s.class w' → Calls Tryz.prog 55 #[.pointer (some ⟨c, 0, none⟩), .string sCols] w' fun e w'' => e = .returned (.tuple #[]) ∧ Mv W0 c (s.class.need sCols) w' w'') := by
   show ∀ w', _
   intro w' h'; exact need_any W0 w' c _ sCols h'
 have HU : Hid (∀ w', Rd W0 c (s.class.need sCols) w' → w.heap.size < w'.heap.size → Calls Tryz.prog 133 #[.pointer (some ⟨c, 0, none⟩), .agg #[.int .i64 0, .int .i32 0, .string ⟨#[]⟩, .string ⟨#[]⟩, .string cl, .slice none 0 0, .string ⟨#[]⟩, .int .i64 0], .int .i64 9, .int .i64 13] w' (UsC W0 (w.heap.size + 1) none c w' r)) := by
   show ∀ w', _
   intro w' h' hs'
   have := IH W0 w' (w.heap.size + 1) none c _ 9 13 cl (.slice none 0 0) [] [] hv h' hen (OwnR.nil _ _ _) rfl (by omega) hs' ⟨none, rfl⟩ (Nat.zero_le _) hcl (by simp)
   rw [hr] at this; exact this
 clear hr hen h IH hv hcle
 go_enter Tryz.func148, Tryz.ntmps148
 go_wp2_with fail
 refine HC.out.mono ?_
 clear HC hW1
 rintro e w2 ⟨rfl, hm⟩
 have HM1 := Lib.hid (HM0.out.trans hm)
 have HB1 := Lib.hid (Bx.grown HX0.out hm.1 (by omega))
 have hs1 := hm.1.size
 clear hm
 obtain ⟨W3, hW3⟩ : ∃ W3, w2.alloc (.cells #[.int .i64 0, .int .i32 0, .string ⟨#[]⟩, .string ⟨#[]⟩, .string cl, .slice none 0 0, .string ⟨#[]⟩, .int .i64 0] 36) = W3 := ⟨_, rfl⟩
 have hb3 : Below w2.heap.size w2 W3 := by rw [← hW3]; exact (Below.refl _ _).alloc (Nat.le_refl _) _
 have HY := Lib.hid (show Bx W3 w2.heap.size #[.int .i64 0, .int .i32 0, .string ⟨#[]⟩, .string ⟨#[]⟩, .string cl, .slice none 0 0, .string ⟨#[]⟩, .int .i64 0] 36 by rw [← hW3]; exact Bx.new _ _ _)
 have HM3 := Lib.hid (HM1.out.trans (Mv.below hb3 HM1.out.2))
 have HB3 := Lib.hid (Bx.next HB1.out hb3)
 have hs3 := hb3.size
 clear hb3
 subst hW3
 go_wp2_with fail
 refine (HN.out _ HM3.out.2).mono ?_
 clear HN
 rintro e w4 ⟨rfl, hm⟩
 have HM4 := Lib.hid (HM3.out.trans hm)
 have HB4 := Lib.hid (Bx.grown HB3.out hm.1 (by omega))
 obtain ⟨a0, a1, a2, a3, a4, a5, a6, a7⟩ := (Bx.grown HY.out hm.1 (by omega)).all_8
 have hs4 := hm.1.size
 clear hm
 go_wp2_with fail
 refine (HU.out _ HM4.out.2 (by omega)).mono ?_
 clear HU a0 a1 a2 a3 a4 a5 a6 a7
 rintro e w5 ⟨y, rfl, hk, hm⟩
 have HK := Lib.hid hk
 obtain ⟨k, m, tx, nm, ty, A, cap, l, rfl, _, _, _⟩ := hk
 have HM := Lib.hid (HM4.out.trans hm)
 have HBX := Lib.hid (Bx.grown HB4.out hm.1 (by omega))
 clear hm
 have hx2 := HBX.out
 obtain ⟨r0, r1, r2, r3, r4, r5, r6, r7⟩ := hx2.all_8
 have g0 := hx2.fro 0; have g1 := hx2.fro 1; have g2 := hx2.fro 2; have g3 := hx2.fro 3; have g4 := hx2.fro 4; have g5 := hx2.fro 5; have g6 := hx2.fro 6; have g7 := hx2.fro 7
 have HG := Lib.hid (grown_8 w5 w.heap.size (.int .i64 k) (.int .i32 m) (.string tx) (.string nm) (.string ty) (.slice A l.length cap) (.string ⟨#[]⟩) (.int .i64 0))
 clear hx2
 (try simp only [cellsN])
 go_wp2_with fail
 obtain ⟨z0, z1, z2, z3, z4, z5, z6, z7⟩ := (HBX.out.to_8 (.int .i64 k) (.int .i32 m) (.string tx) (.string nm) (.string ty) (.slice A l.length cap) (.string ⟨#[]⟩) (.int .i64 0)).all_8
 (try simp only [Exit.inBlock, Exit.then])
 refine bodyPost_ret (v := .agg #[.int .i64 k, .int .i32 m, .string tx, .string nm, .string ty, .slice A l.length cap, .string ⟨#[]⟩, .int .i64 0]) (by simp [results, Tryz.results148, go_sem, z0, z1, z2, z3, z4, z5, z6, z7]) rfl ?_
 exact ⟨_, rfl, (HK.out.grown HG.out (.inl (by omega))).mono (by omega), Mv.over (Below.refl _ _) HM.out HG.out (Nat.le_refl _) hlt⟩
theorem fixed_0 (n : Nat) (W0 w : World) (c : Nat) (s : RS) (hv : Vars W0) (h : Rd W0 c s w) (hn : enough (n + 1) .fixed s) (h0 : s.sees 0 sTrue = true) : Calls Tryz.prog 149 #[.pointer (some ⟨c, 0, none⟩)] w (ExC W0 c w (run (n + 1) .fixed s)) := by
 have hR : run (n + 1) .fixed s = ([mkE 2 1 E0 E0 E0 []], s.skip) := by simp only [run, h0]; simp
 have hlt := h.lt
 have hle0 := h.le
 obtain ⟨W1, hW1⟩ : ∃ W1, w.alloc (.cells #[.int .i64 0, .int .i32 0, .string ⟨#[]⟩, .string ⟨#[]⟩, .string ⟨#[]⟩, .slice none 0 0, .string ⟨#[]⟩, .int .i64 0] 36) = W1 := ⟨_, rfl⟩
 have hb : Below w.heap.size w W1 := by rw [← hW1]; exact (Below.refl _ w).alloc (Nat.le_refl _) _
 have hx : Bx W1 w.heap.size #[.int .i64 0, .int .i32 0, .string ⟨#[]⟩, .string ⟨#[]⟩, .string ⟨#[]⟩, .slice none 0 0, .string ⟨#[]⟩, .int .i64 0] 36 := by rw [← hW1]; exact Bx.new _ _ _
 have hz : W1.heap.size = w.heap.size + 1 := by rw [← hW1]; simp
 have HM0 := Lib.hid (Mv.below hb h)
 have HX0 := Lib.hid hx
 clear hb hx
 have T0 := Lib.hid (take_true W0 W1 c s sTrue HM0.out.2 h0)
 rw [hR]
 clear hR hn h hv h0
 go_enter Tryz.func149, Tryz.ntmps149
 go_wp2_with fail
 refine T0.out.mono ?_
 clear T0 hW1
 rintro e w2 ⟨rfl, hm⟩
 have HM := Lib.hid (HM0.out.trans hm)
 have HBX := Lib.hid (Bx.grown HX0.out hm.1 (by omega))
 clear hm
 have HK := Lib.hid ((OwnE.nil (w.heap.size + 1) w2).node 2 1 ⟨#[]⟩ ⟨#[]⟩ ⟨#[]⟩ ⟨Nat.zero_le _, Nat.zero_le _, Nat.zero_le _⟩ (mk_bare (xs := []) rfl _ _ _ _ _))
 have hx2 := HBX.out
 obtain ⟨r0, r1, r2, r3, r4, r5, r6, r7⟩ := hx2.all_8
 have g0 := hx2.fro 0; have g1 := hx2.fro 1; have g2 := hx2.fro 2; have g3 := hx2.fro 3; have g4 := hx2.fro 4; have g5 := hx2.fro 5; have g6 := hx2.fro 6; have g7 := hx2.fro 7
 have HG := Lib.hid (grown_8 w2 w.heap.size (.int .i64 2) (.int .i32 1) (.string ⟨#[]⟩) (.string ⟨#[]⟩) (.string ⟨#[]⟩) (.slice none 0 0) (.string ⟨#[]⟩) (.int .i64 0))
 clear hx2
 (try simp only [cellsN])
 go_wp2_with fail
 obtain ⟨z0, z1, z2, z3, z4, z5, z6, z7⟩ := (HBX.out.to_8 (.int .i64 2) (.int .i32 1) (.string ⟨#[]⟩) (.string ⟨#[]⟩) (.string ⟨#[]⟩) (.slice none 0 0) (.string ⟨#[]⟩) (.int .i64 0)).all_8
 (try simp only [Exit.inBlock, Exit.then])
 refine bodyPost_ret (v := .agg #[.int .i64 2, .int .i32 1, .string ⟨#[]⟩, .string ⟨#[]⟩, .string ⟨#[]⟩, .slice none 0 0, .string ⟨#[]⟩, .int .i64 0]) (by simp [results, Tryz.results149, go_sem, z0, z1, z2, z3, z4, z5, z6, z7]) rfl ?_
 exact ⟨.ex 2 1 ⟨#[]⟩ ⟨#[]⟩ ⟨#[]⟩ (.slice none 0 0) [] ⟨#[]⟩ 0, rfl, (HK.out.grown HG.out (.inl (by omega))).mono (by omega), Mv.over (Below.refl _ _) HM.out HG.out (Nat.le_refl _) hlt⟩
theorem fixed_1 (n : Nat) (W0 w : World) (c : Nat) (s : RS) (hv : Vars W0) (h : Rd W0 c s w) (hn : enough (n + 1) .fixed s) (h0 : s.sees 0 sTrue = false) (h1 : s.sees 0 sFalse = true) : Calls Tryz.prog 149 #[.pointer (some ⟨c, 0, none⟩)] w (ExC W0 c w (run (n + 1) .fixed s)) := by
 have hR : run (n + 1) .fixed s = ([mkE 2 0 E0 E0 E0 []], s.skip) := by simp only [run, h0, h1]; simp
 have hlt := h.lt
 have hle0 := h.le
 obtain ⟨W1, hW1⟩ : ∃ W1, w.alloc (.cells #[.int .i64 0, .int .i32 0, .string ⟨#[]⟩, .string ⟨#[]⟩, .string ⟨#[]⟩, .slice none 0 0, .string ⟨#[]⟩, .int .i64 0] 36) = W1 := ⟨_, rfl⟩
 have hb : Below w.heap.size w W1 := by rw [← hW1]; exact (Below.refl _ w).alloc (Nat.le_refl _) _
 have hx : Bx W1 w.heap.size #[.int .i64 0, .int .i32 0, .string ⟨#[]⟩, .string ⟨#[]⟩, .string ⟨#[]⟩, .slice none 0 0, .string ⟨#[]⟩, .int .i64 0] 36 := by rw [← hW1]; exact Bx.new _ _ _
 have hz : W1.heap.size = w.heap.size + 1 := by rw [← hW1]; simp
 have HM0 := Lib.hid (Mv.below hb h)
 have HX0 := Lib.hid hx
 clear hb hx
 have T0 := Lib.hid (take_false W0 W1 c s sTrue HM0.out.2 h0)
 have T1 := Lib.hid (take_true W0 W1 c s sFalse HM0.out.2 h1)
 rw [hR]
 clear hR hn h hv h0 h1
 go_enter Tryz.func149, Tryz.ntmps149
 go_wp2_with fail
 refine T0.out.mono ?_
 clear T0
 rintro e w0 ⟨rfl, rfl⟩
 go_wp2_with fail
 refine T1.out.mono ?_
 clear T1 hW1
 rintro e w2 ⟨rfl, hm⟩
 have HM := Lib.hid (HM0.out.trans hm)
 have HBX := Lib.hid (Bx.grown HX0.out hm.1 (by omega))
 clear hm
 have HK := Lib.hid ((OwnE.nil (w.heap.size + 1) w2).node 2 0 ⟨#[]⟩ ⟨#[]⟩ ⟨#[]⟩ ⟨Nat.zero_le _, Nat.zero_le _, Nat.zero_le _⟩ (mk_bare (xs := []) rfl _ _ _ _ _))
 have hx2 := HBX.out
 obtain ⟨r0, r1, r2, r3, r4, r5, r6, r7⟩ := hx2.all_8
 have g0 := hx2.fro 0; have g1 := hx2.fro 1; have g2 := hx2.fro 2; have g3 := hx2.fro 3; have g4 := hx2.fro 4; have g5 := hx2.fro 5; have g6 := hx2.fro 6; have g7 := hx2.fro 7
 have HG := Lib.hid (grown_8 w2 w.heap.size (.int .i64 2) (.int .i32 0) (.string ⟨#[]⟩) (.string ⟨#[]⟩) (.string ⟨#[]⟩) (.slice none 0 0) (.string ⟨#[]⟩) (.int .i64 0))
 clear hx2
 (try simp only [cellsN])
 go_wp2_with fail
 obtain ⟨z0, z1, z2, z3, z4, z5, z6, z7⟩ := (HBX.out.to_8 (.int .i64 2) (.int .i32 0) (.string ⟨#[]⟩) (.string ⟨#[]⟩) (.string ⟨#[]⟩) (.slice none 0 0) (.string ⟨#[]⟩) (.int .i64 0)).all_8
 (try simp only [Exit.inBlock, Exit.then])
 refine bodyPost_ret (v := .agg #[.int .i64 2, .int .i32 0, .string ⟨#[]⟩, .string ⟨#[]⟩, .string ⟨#[]⟩, .slice none 0 0, .string ⟨#[]⟩, .int .i64 0]) (by simp [results, Tryz.results149, go_sem, z0, z1, z2, z3, z4, z5, z6, z7]) rfl ?_
 exact ⟨.ex 2 0 ⟨#[]⟩ ⟨#[]⟩ ⟨#[]⟩ (.slice none 0 0) [] ⟨#[]⟩ 0, rfl, (HK.out.grown HG.out (.inl (by omega))).mono (by omega), Mv.over (Below.refl _ _) HM.out HG.out (Nat.le_refl _) hlt⟩
theorem fixed_2 (n : Nat) (W0 w : World) (c : Nat) (s : RS) (hv : Vars W0) (h : Rd W0 c s w) (hn : enough (n + 1) .fixed s) (h0 : s.sees 0 sTrue = false) (h1 : s.sees 0 sFalse = false) (h2 : s.sees 0 sNull = true) : Calls Tryz.prog 149 #[.pointer (some ⟨c, 0, none⟩)] w (ExC W0 c w (run (n + 1) .fixed s)) := by
 have hR : run (n + 1) .fixed s = ([mkE 4 0 E0 E0 E0 []], s.skip) := by simp only [run, h0, h1, h2]; simp
 have hlt := h.lt
 have hle0 := h.le
 obtain ⟨W1, hW1⟩ : ∃ W1, w.alloc (.cells #[.int .i64 0, .int .i32 0, .string ⟨#[]⟩, .string ⟨#[]⟩, .string ⟨#[]⟩, .slice none 0 0, .string ⟨#[]⟩, .int .i64 0] 36) = W1 := ⟨_, rfl⟩
 have hb : Below w.heap.size w W1 := by rw [← hW1]; exact (Below.refl _ w).alloc (Nat.le_refl _) _
 have hx : Bx W1 w.heap.size #[.int .i64 0, .int .i32 0, .string ⟨#[]⟩, .string ⟨#[]⟩, .string ⟨#[]⟩, .slice none 0 0, .string ⟨#[]⟩, .int .i64 0] 36 := by rw [← hW1]; exact Bx.new _ _ _
 have hz : W1.heap.size = w.heap.size + 1 := by rw [← hW1]; simp
 have HM0 := Lib.hid (Mv.below hb h)
 have HX0 := Lib.hid hx
 clear hb hx
 have T0 := Lib.hid (take_false W0 W1 c s sTrue HM0.out.2 h0)
 have T1 := Lib.hid (take_false W0 W1 c s sFalse HM0.out.2 h1)
 have T2 := Lib.hid (take_true W0 W1 c s sNull HM0.out.2 h2)
 rw [hR]
 clear hR hn h hv h0 h1 h2
 go_enter Tryz.func149, Tryz.ntmps149
 go_wp2_with fail
 refine T0.out.mono ?_
 clear T0
 rintro e w0 ⟨rfl, rfl⟩
 go_wp2_with fail
 refine T1.out.mono ?_
 clear T1
 rintro e w0 ⟨rfl, rfl⟩
 go_wp2_with fail
 refine T2.out.mono ?_
 clear T2 hW1
 rintro e w2 ⟨rfl, hm⟩
 have HM := Lib.hid (HM0.out.trans hm)
 have HBX := Lib.hid (Bx.grown HX0.out hm.1 (by omega))
 clear hm
 have HK := Lib.hid ((OwnE.nil (w.heap.size + 1) w2).node 4 0 ⟨#[]⟩ ⟨#[]⟩ ⟨#[]⟩ ⟨Nat.zero_le _, Nat.zero_le _, Nat.zero_le _⟩ (mk_bare (xs := []) rfl _ _ _ _ _))
 have hx2 := HBX.out
 obtain ⟨r0, r1, r2, r3, r4, r5, r6, r7⟩ := hx2.all_8
 have g0 := hx2.fro 0; have g1 := hx2.fro 1; have g2 := hx2.fro 2; have g3 := hx2.fro 3; have g4 := hx2.fro 4; have g5 := hx2.fro 5; have g6 := hx2.fro 6; have g7 := hx2.fro 7
 have HG := Lib.hid (grown_8 w2 w.heap.size (.int .i64 4) (.int .i32 0) (.string ⟨#[]⟩) (.string ⟨#[]⟩) (.string ⟨#[]⟩) (.slice none 0 0) (.string ⟨#[]⟩) (.int .i64 0))
 clear hx2
 (try simp only [cellsN])
 go_wp2_with fail
 obtain ⟨z0, z1, z2, z3, z4, z5, z6, z7⟩ := (HBX.out.to_8 (.int .i64 4) (.int .i32 0) (.string ⟨#[]⟩) (.string ⟨#[]⟩) (.string ⟨#[]⟩) (.slice none 0 0) (.string ⟨#[]⟩) (.int .i64 0)).all_8
 (try simp only [Exit.inBlock, Exit.then])
 refine bodyPost_ret (v := .agg #[.int .i64 4, .int .i32 0, .string ⟨#[]⟩, .string ⟨#[]⟩, .string ⟨#[]⟩, .slice none 0 0, .string ⟨#[]⟩, .int .i64 0]) (by simp [results, Tryz.results149, go_sem, z0, z1, z2, z3, z4, z5, z6, z7]) rfl ?_
 exact ⟨.ex 4 0 ⟨#[]⟩ ⟨#[]⟩ ⟨#[]⟩ (.slice none 0 0) [] ⟨#[]⟩ 0, rfl, (HK.out.grown HG.out (.inl (by omega))).mono (by omega), Mv.over (Below.refl _ _) HM.out HG.out (Nat.le_refl _) hlt⟩
theorem fixed_3 (n : Nat) (W0 w : World) (c : Nat) (s : RS) (hv : Vars W0) (h : Rd W0 c s w) (hn : enough (n + 1) .fixed s) (h0 : s.sees 0 sTrue = false) (h1 : s.sees 0 sFalse = false) (h2 : s.sees 0 sNull = false) (h3 : s.sees 0 sThis = true) : Calls Tryz.prog 149 #[.pointer (some ⟨c, 0, none⟩)] w (ExC W0 c w (run (n + 1) .fixed s)) := by
 have hR : run (n + 1) .fixed s = ([mkE 5 0 E0 E0 E0 []], s.skip) := by simp only [run, h0, h1, h2, h3]; simp
 have hlt := h.lt
 have hle0 := h.le
 obtain ⟨W1, hW1⟩ : ∃ W1, w.alloc (.cells #[.int .i64 0, .int .i32 0, .string ⟨#[]⟩, .string ⟨#[]⟩, .string ⟨#[]⟩, .slice none 0 0, .string ⟨#[]⟩, .int .i64 0] 36) = W1 := ⟨_, rfl⟩
 have hb : Below w.heap.size w W1 := by rw [← hW1]; exact (Below.refl _ w).alloc (Nat.le_refl _) _
 have hx : Bx W1 w.heap.size #[.int .i64 0, .int .i32 0, .string ⟨#[]⟩, .string ⟨#[]⟩, .string ⟨#[]⟩, .slice none 0 0, .string ⟨#[]⟩, .int .i64 0] 36 := by rw [← hW1]; exact Bx.new _ _ _
 have hz : W1.heap.size = w.heap.size + 1 := by rw [← hW1]; simp
 have HM0 := Lib.hid (Mv.below hb h)
 have HX0 := Lib.hid hx
 clear hb hx
 have T0 := Lib.hid (take_false W0 W1 c s sTrue HM0.out.2 h0)
 have T1 := Lib.hid (take_false W0 W1 c s sFalse HM0.out.2 h1)
 have T2 := Lib.hid (take_false W0 W1 c s sNull HM0.out.2 h2)
 have T3 := Lib.hid (take_true W0 W1 c s sThis HM0.out.2 h3)
 rw [hR]
 clear hR hn h hv h0 h1 h2 h3
 go_enter Tryz.func149, Tryz.ntmps149
 go_wp2_with fail
 refine T0.out.mono ?_
 clear T0
 rintro e w0 ⟨rfl, rfl⟩
 go_wp2_with fail
 refine T1.out.mono ?_
 clear T1
 rintro e w0 ⟨rfl, rfl⟩
 go_wp2_with fail
 refine T2.out.mono ?_
 clear T2
 rintro e w0 ⟨rfl, rfl⟩
 go_wp2_with fail
 refine T3.out.mono ?_
 clear T3 hW1
 rintro e w2 ⟨rfl, hm⟩
 have HM := Lib.hid (HM0.out.trans hm)
 have HBX := Lib.hid (Bx.grown HX0.out hm.1 (by omega))
 clear hm
 have HK := Lib.hid ((OwnE.nil (w.heap.size + 1) w2).node 5 0 ⟨#[]⟩ ⟨#[]⟩ ⟨#[]⟩ ⟨Nat.zero_le _, Nat.zero_le _, Nat.zero_le _⟩ (mk_bare (xs := []) rfl _ _ _ _ _))
 have hx2 := HBX.out
 obtain ⟨r0, r1, r2, r3, r4, r5, r6, r7⟩ := hx2.all_8
 have g0 := hx2.fro 0; have g1 := hx2.fro 1; have g2 := hx2.fro 2; have g3 := hx2.fro 3; have g4 := hx2.fro 4; have g5 := hx2.fro 5; have g6 := hx2.fro 6; have g7 := hx2.fro 7
 have HG := Lib.hid (grown_8 w2 w.heap.size (.int .i64 5) (.int .i32 0) (.string ⟨#[]⟩) (.string ⟨#[]⟩) (.string ⟨#[]⟩) (.slice none 0 0) (.string ⟨#[]⟩) (.int .i64 0))
 clear hx2
 (try simp only [cellsN])
 go_wp2_with fail
 obtain ⟨z0, z1, z2, z3, z4, z5, z6, z7⟩ := (HBX.out.to_8 (.int .i64 5) (.int .i32 0) (.string ⟨#[]⟩) (.string ⟨#[]⟩) (.string ⟨#[]⟩) (.slice none 0 0) (.string ⟨#[]⟩) (.int .i64 0)).all_8
 (try simp only [Exit.inBlock, Exit.then])
 refine bodyPost_ret (v := .agg #[.int .i64 5, .int .i32 0, .string ⟨#[]⟩, .string ⟨#[]⟩, .string ⟨#[]⟩, .slice none 0 0, .string ⟨#[]⟩, .int .i64 0]) (by simp [results, Tryz.results149, go_sem, z0, z1, z2, z3, z4, z5, z6, z7]) rfl ?_
 exact ⟨.ex 5 0 ⟨#[]⟩ ⟨#[]⟩ ⟨#[]⟩ (.slice none 0 0) [] ⟨#[]⟩ 0, rfl, (HK.out.grown HG.out (.inl (by omega))).mono (by omega), Mv.over (Below.refl _ _) HM.out HG.out (Nat.le_refl _) hlt⟩
theorem fixed_4 (n : Nat) (IH : SpecU n) (W0 w : World) (c : Nat) (s : RS) (hv : Vars W0) (h : Rd W0 c s w) (hn : enough (n + 1) .fixed s) (h0 : s.sees 0 sTrue = false) (h1 : s.sees 0 sFalse = false) (h2 : s.sees 0 sNull = false) (h3 : s.sees 0 sThis = false) (h4 : s.sees 0 sSuper = true) : Calls Tryz.prog 149 #[.pointer (some ⟨c, 0, none⟩)] w (ExC W0 c w (run (n + 1) .fixed s)) := by
 obtain ⟨r, hr⟩ : ∃ r, run n (.used 8 12 E0 []) (s.skip.need sDot) = r := ⟨_, rfl⟩
 have hR : run (n + 1) .fixed s = r := by simp only [run, h0, h1, h2, h3, h4, hr]; simp
 have hle := sees_len h4
 have hen : enough n (.used 8 12 E0 []) (s.skip.need sDot) := by have h7 := len_skip s; have h8 := len_need s.skip sDot; simp only [enough, Md.rank] at hn ⊢; omega
 have hlt := h.lt
 have hle0 := h.le
 obtain ⟨W1, hW1⟩ : ∃ W1, w.alloc (.cells #[.int .i64 0, .int .i32 0, .string ⟨#[]⟩, .string ⟨#[]⟩, .string ⟨#[]⟩, .slice none 0 0, .string ⟨#[]⟩, .int .i64 0] 36) = W1 := ⟨_, rfl⟩
 have hb : Below w.heap.size w W1 := by rw [← hW1]; exact (Below.refl _ w).alloc (Nat.le_refl _) _
 have hx : Bx W1 w.heap.size #[.int .i64 0, .int .i32 0, .string ⟨#[]⟩, .string ⟨#[]⟩, .string ⟨#[]⟩, .slice none 0 0, .string ⟨#[]⟩, .int .i64 0] 36 := by rw [← hW1]; exact Bx.new _ _ _
 have hz : W1.heap.size = w.heap.size + 1 := by rw [← hW1]; simp
 have HM0 := Lib.hid (Mv.below hb h)
 have HX0 := Lib.hid hx
 clear hb hx
 have T0 := Lib.hid (take_false W0 W1 c s sTrue HM0.out.2 h0)
 have T1 := Lib.hid (take_false W0 W1 c s sFalse HM0.out.2 h1)
 have T2 := Lib.hid (take_false W0 W1 c s sNull HM0.out.2 h2)
 have T3 := Lib.hid (take_false W0 W1 c s sThis HM0.out.2 h3)
 have T4 := Lib.hid (take_true W0 W1 c s sSuper HM0.out.2 h4)
 have HN : Hid (∀ w', Rd W0 c s.skip w' → Calls Tryz.prog 55 #[.pointer (some ⟨c, 0, none⟩), .string sDot] w' fun e w'' => e = .returned (.tuple #[]) ∧ Mv W0 c (s.skip.need sDot) w' w'') := by
   show ∀ w', _
   intro w' h'; exact need_any W0 w' c _ sDot h'
 have HU : Hid (∀ w', Rd W0 c (s.skip.need sDot) w' → w.heap.size < w'.heap.size → Calls Tryz.prog 133 #[.pointer (some ⟨c, 0, none⟩), .agg #[.int .i64 0, .int .i32 0, .string ⟨#[]⟩, .string ⟨#[]⟩, .string ⟨#[]⟩, .slice none 0 0, .string ⟨#[]⟩, .int .i64 0], .int .i64 8, .int .i64 12] w' (UsC W0 (w.heap.size + 1) none c w' r)) := by
   show ∀ w', _
   intro w' h' hs'
   have := IH W0 w' (w.heap.size + 1) none c _ 8 12 E0 (.slice none 0 0) [] [] hv h' hen (OwnR.nil _ _ _) rfl (by omega) hs' ⟨none, rfl⟩ (Nat.zero_le _) (Nat.zero_le _) (by simp)
   rw [hr] at this; exact this
 rw [hR]
 clear hR hn h hv h0 h1 h2 h3 h4 hr hen IH hle
 go_enter Tryz.func149, Tryz.ntmps149
 go_wp2_with fail
 refine T0.out.mono ?_
 clear T0
 rintro e w0 ⟨rfl, rfl⟩
 go_wp2_with fail
 refine T1.out.mono ?_
 clear T1
 rintro e w0 ⟨rfl, rfl⟩
 go_wp2_with fail
 refine T2.out.mono ?_
 clear T2
 rintro e w0 ⟨rfl, rfl⟩
 go_wp2_with fail
 refine T3.out.mono ?_
 clear T3
 rintro e w0 ⟨rfl, rfl⟩
 go_wp2_with fail
 refine T4.out.mono ?_
 clear T4 hW1
 rintro e w2 ⟨rfl, hm⟩
 have HM1 := Lib.hid (HM0.out.trans hm)
 have HB1 := Lib.hid (Bx.grown HX0.out hm.1 (by omega))
 have hs2 := hm.1.size
 clear hm
 go_wp2_with fail
 refine (HN.out _ HM1.out.2).mono ?_
 clear HN
 rintro e w3 ⟨rfl, hm⟩
 have HM2 := Lib.hid (HM1.out.trans hm)
 have HB2 := Lib.hid (Bx.grown HB1.out hm.1 (by omega))
 have hs3 := hm.1.size
 clear hm
 go_wp2_with fail
 refine (HU.out _ HM2.out.2 (by omega)).mono ?_
 clear HU
 rintro e w4 ⟨y, rfl, hk, hm⟩
 have HK := Lib.hid hk
 obtain ⟨k, m, tx, nm, ty, A, cap, l, rfl, _, _, _⟩ := hk
 have HM := Lib.hid (HM2.out.trans hm)
 have HBX := Lib.hid (Bx.grown HB2.out hm.1 (by omega))
 clear hm
 have hx2 := HBX.out
 obtain ⟨r0, r1, r2, r3, r4, r5, r6, r7⟩ := hx2.all_8
 have g0 := hx2.fro 0; have g1 := hx2.fro 1; have g2 := hx2.fro 2; have g3 := hx2.fro 3; have g4 := hx2.fro 4; have g5 := hx2.fro 5; have g6 := hx2.fro 6; have g7 := hx2.fro 7
 have HG := Lib.hid (grown_8 w4 w.heap.size (.int .i64 k) (.int .i32 m) (.string tx) (.string nm) (.string ty) (.slice A l.length cap) (.string ⟨#[]⟩) (.int .i64 0))
 clear hx2
 (try simp only [cellsN])
 go_wp2_with fail
 obtain ⟨z0, z1, z2, z3, z4, z5, z6, z7⟩ := (HBX.out.to_8 (.int .i64 k) (.int .i32 m) (.string tx) (.string nm) (.string ty) (.slice A l.length cap) (.string ⟨#[]⟩) (.int .i64 0)).all_8
 (try simp only [Exit.inBlock, Exit.then])
 refine bodyPost_ret (v := .agg #[.int .i64 k, .int .i32 m, .string tx, .string nm, .string ty, .slice A l.length cap, .string ⟨#[]⟩, .int .i64 0]) (by simp [results, Tryz.results149, go_sem, z0, z1, z2, z3, z4, z5, z6, z7]) rfl ?_
 exact ⟨_, rfl, (HK.out.grown HG.out (.inl (by omega))).mono (by omega), Mv.over (Below.refl _ _) HM.out HG.out (Nat.le_refl _) hlt⟩
theorem fixed_5 (n : Nat) (IH : SpecR n) (W0 w : World) (c : Nat) (s : RS) (hv : Vars W0) (h : Rd W0 c s w) (hn : enough (n + 1) .fixed s) (h0 : s.sees 0 sTrue = false) (h1 : s.sees 0 sFalse = false) (h2 : s.sees 0 sNull = false) (h3 : s.sees 0 sThis = false) (h4 : s.sees 0 sSuper = false) (h5 : s.sees 0 sNew = true) : Calls Tryz.prog 149 #[.pointer (some ⟨c, 0, none⟩)] w (ExC W0 c w (run (n + 1) .fixed s)) := by
 obtain ⟨r, hr⟩ : ∃ r, run n .args s.skip.class = r := ⟨_, rfl⟩
 have hR : run (n + 1) .fixed s = ([mkE 14 0 E0 E0 s.skip.classV r.1], r.2) := by simp only [run, h0, h1, h2, h3, h4, h5, hr]; simp
 have hle := sees_len h5
 have hen : enough n .args s.skip.class := by have h7 := len_skip s; have h8 := len_class s.skip; simp only [enough, Md.rank] at hn ⊢; omega
 have hcl := class_len s.skip
 have hlt := h.lt
 have hle0 := h.le
 obtain ⟨W1, hW1⟩ : ∃ W1, w.alloc (.cells #[.int .i64 0, .int .i32 0, .string ⟨#[]⟩, .string ⟨#[]⟩, .string ⟨#[]⟩, .slice none 0 0, .string ⟨#[]⟩, .int .i64 0] 36) = W1 := ⟨_, rfl⟩
 have hb : Below w.heap.size w W1 := by rw [← hW1]; exact (Below.refl _ w).alloc (Nat.le_refl _) _
 have hx : Bx W1 w.heap.size #[.int .i64 0, .int .i32 0, .string ⟨#[]⟩, .string ⟨#[]⟩, .string ⟨#[]⟩, .slice none 0 0, .string ⟨#[]⟩, .int .i64 0] 36 := by rw [← hW1]; exact Bx.new _ _ _
 have hz : W1.heap.size = w.heap.size + 1 := by rw [← hW1]; simp
 have HM0 := Lib.hid (Mv.below hb h)
 have HX0 := Lib.hid hx
 clear hb hx
 have T0 := Lib.hid (take_false W0 W1 c s sTrue HM0.out.2 h0)
 have T1 := Lib.hid (take_false W0 W1 c s sFalse HM0.out.2 h1)
 have T2 := Lib.hid (take_false W0 W1 c s sNull HM0.out.2 h2)
 have T3 := Lib.hid (take_false W0 W1 c s sThis HM0.out.2 h3)
 have T4 := Lib.hid (take_false W0 W1 c s sSuper HM0.out.2 h4)
 have T5 := Lib.hid (take_true W0 W1 c s sNew HM0.out.2 h5)
 have HC : Hid (∀ w', Rd W0 c s.skip w' → Calls Tryz.prog 56 #[.pointer (some ⟨c, 0, none⟩)] w' fun e w'' => e = .returned (.string s.skip.classV) ∧ Mv W0 c s.skip.class w' w'') := by
   show ∀ w', _
   intro w' h'; exact classR_any W0 w' c _ h'
 have HA : Hid (∀ w', Rd W0 c s.skip.class w' → Calls Tryz.prog 150 #[.pointer (some ⟨c, 0, none⟩)] w' (LsC W0 c w' r)) := by
   show ∀ w', _
   intro w' h'; have := IH W0 w' c _ hv h' hen; rw [hr] at this; exact this
 rw [hR]
 obtain ⟨cl, hcle⟩ : ∃ cl, s.skip.classV = cl := ⟨_, rfl⟩
 rw [hcle] at hcl HC ⊢
 clear hcle
 clear hR hn h hv h0 h1 h2 h3 h4 h5 hr hen IH hle
 go_enter Tryz.func149, Tryz.ntmps149
 go_wp2_with fail
 refine T0.out.mono ?_
 clear T0
 rintro e w0 ⟨rfl, rfl⟩
 go_wp2_with fail
 refine T1.out.mono ?_
 clear T1
 rintro e w0 ⟨rfl, rfl⟩
 go_wp2_with fail
 refine T2.out.mono ?_
 clear T2
 rintro e w0 ⟨rfl, rfl⟩
 go_wp2_with fail
 refine T3.out.mono ?_
 clear T3
 rintro e w0 ⟨rfl, rfl⟩
 go_wp2_with fail
 refine T4.out.mono ?_
 clear T4
 rintro e w0 ⟨rfl, rfl⟩
 go_wp2_with fail
 refine T5.out.mono ?_
 clear T5 hW1
 rintro e w2 ⟨rfl, hm⟩
 have HM1 := Lib.hid (HM0.out.trans hm)
 have HB1 := Lib.hid (Bx.grown HX0.out hm.1 (by omega))
 have hs2 := hm.1.size
 clear hm
 go_wp2_with fail
 refine (HC.out _ HM1.out.2).mono ?_
 clear HC
 rintro e w3 ⟨rfl, hm⟩
 have HM2 := Lib.hid (HM1.out.trans hm)
 have HB2 := Lib.hid (Bx.grown HB1.out hm.1 (by omega))
 have hs3 := hm.1.size
 clear hm
 go_wp2_with fail
 refine (HA.out _ HM2.out.2).mono ?_
 clear HA
 rintro e w4 ⟨v, ys, rfl, ho, hbz, hm⟩
 obtain ⟨A, cap, rfl⟩ := ho.form
 have HM := Lib.hid (HM2.out.trans hm)
 have HBX := Lib.hid (Bx.grown HB2.out hm.1 (by omega))
 have HK := Lib.hid (ho.node 14 0 ⟨#[]⟩ ⟨#[]⟩ cl ⟨Nat.zero_le _, Nat.zero_le _, hcl⟩ (mk_bare hbz _ _ _ _ _))
 clear hm ho hbz
 have hx2 := HBX.out
 obtain ⟨r0, r1, r2, r3, r4, r5, r6, r7⟩ := hx2.all_8
 have g0 := hx2.fro 0; have g1 := hx2.fro 1; have g2 := hx2.fro 2; have g3 := hx2.fro 3; have g4 := hx2.fro 4; have g5 := hx2.fro 5; have g6 := hx2.fro 6; have g7 := hx2.fro 7
 have HG := Lib.hid (grown_8 w4 w.heap.size (.int .i64 14) (.int .i32 0) (.string ⟨#[]⟩) (.string ⟨#[]⟩) (.string cl) (.slice A ys.length cap) (.string ⟨#[]⟩) (.int .i64 0))
 clear hx2
 (try simp only [cellsN])
 go_wp2_with fail
 obtain ⟨z0, z1, z2, z3, z4, z5, z6, z7⟩ := (HBX.out.to_8 (.int .i64 14) (.int .i32 0) (.string ⟨#[]⟩) (.string ⟨#[]⟩) (.string cl) (.slice A ys.length cap) (.string ⟨#[]⟩) (.int .i64 0)).all_8
 (try simp only [Exit.inBlock, Exit.then])
 refine bodyPost_ret (v := .agg #[.int .i64 14, .int .i32 0, .string ⟨#[]⟩, .string ⟨#[]⟩, .string cl, .slice A ys.length cap, .string ⟨#[]⟩, .int .i64 0]) (by simp [results, Tryz.results149, go_sem, z0, z1, z2, z3, z4, z5, z6, z7]) rfl ?_
 exact ⟨.ex 14 0 ⟨#[]⟩ ⟨#[]⟩ cl (.slice A ys.length cap) ys ⟨#[]⟩ 0, rfl, (HK.out.grown HG.out (.inl (by omega))).mono (by omega), Mv.over (Below.refl _ _) HM.out HG.out (Nat.le_refl _) hlt⟩
theorem fixed_6 (n : Nat) (IH : SpecE n) (W0 w : World) (c : Nat) (s : RS) (hv : Vars W0) (h : Rd W0 c s w) (hn : enough (n + 1) .fixed s) (h0 : s.sees 0 sTrue = false) (h1 : s.sees 0 sFalse = false) (h2 : s.sees 0 sNull = false) (h3 : s.sees 0 sThis = false) (h4 : s.sees 0 sSuper = false) (h5 : s.sees 0 sNew = false) (h6 : s.sees 0 sOpen = true) : Calls Tryz.prog 149 #[.pointer (some ⟨c, 0, none⟩)] w (ExC W0 c w (run (n + 1) .fixed s)) := by
 have hR : run (n + 1) .fixed s = ([hdE (run n .expr (s.enter sOpen)).1], (run n .expr (s.enter sOpen)).2.leave sShut) := by simp only [run, h0, h1, h2, h3, h4, h5, h6]; simp
 have hle := sees_len h6
 have hen : enough n .expr (s.enter sOpen) := by have h7 := len_enter s sOpen; simp only [enough, Md.rank] at hn ⊢; omega
 have hlt := h.lt
 have hle0 := h.le
 obtain ⟨W1, hW1⟩ : ∃ W1, w.alloc (.cells #[.int .i64 0, .int .i32 0, .string ⟨#[]⟩, .string ⟨#[]⟩, .string ⟨#[]⟩, .slice none 0 0, .string ⟨#[]⟩, .int .i64 0] 36) = W1 := ⟨_, rfl⟩
 have hb : Below w.heap.size w W1 := by rw [← hW1]; exact (Below.refl _ w).alloc (Nat.le_refl _) _
 have hx : Bx W1 w.heap.size #[.int .i64 0, .int .i32 0, .string ⟨#[]⟩, .string ⟨#[]⟩, .string ⟨#[]⟩, .slice none 0 0, .string ⟨#[]⟩, .int .i64 0] 36 := by rw [← hW1]; exact Bx.new _ _ _
 have hz : W1.heap.size = w.heap.size + 1 := by rw [← hW1]; simp
 have HM0 := Lib.hid (Mv.below hb h)
 have HX0 := Lib.hid hx
 clear hb hx
 have T0 := Lib.hid (take_false W0 W1 c s sTrue HM0.out.2 h0)
 have T1 := Lib.hid (take_false W0 W1 c s sFalse HM0.out.2 h1)
 have T2 := Lib.hid (take_false W0 W1 c s sNull HM0.out.2 h2)
 have T3 := Lib.hid (take_false W0 W1 c s sThis HM0.out.2 h3)
 have T4 := Lib.hid (take_false W0 W1 c s sSuper HM0.out.2 h4)
 have T5 := Lib.hid (take_false W0 W1 c s sNew HM0.out.2 h5)
 have T6 := Lib.hid (sees_any W0 W1 c s sOpen HM0.out.2)
 rw [h6] at T6
 have HB := Lib.hid (brackets_of n IH W0 W1 c s hv HM0.out.2 hen)
 rw [hR]
 obtain ⟨r, hr⟩ : ∃ r, ([hdE (run n .expr (s.enter sOpen)).1], (run n .expr (s.enter sOpen)).2.leave sShut) = r := ⟨_, rfl⟩
 rw [hr] at HB ⊢
 clear hr
 clear hR hn h hv h0 h1 h2 h3 h4 h5 h6 hen IH hle
 go_enter Tryz.func149, Tryz.ntmps149
 go_wp2_with fail
 refine T0.out.mono ?_
 clear T0
 rintro e w0 ⟨rfl, rfl⟩
 go_wp2_with fail
 refine T1.out.mono ?_
 clear T1
 rintro e w0 ⟨rfl, rfl⟩
 go_wp2_with fail
 refine T2.out.mono ?_
 clear T2
 rintro e w0 ⟨rfl, rfl⟩
 go_wp2_with fail
 refine T3.out.mono ?_
 clear T3
 rintro e w0 ⟨rfl, rfl⟩
 go_wp2_with fail
 refine T4.out.mono ?_
 clear T4
 rintro e w0 ⟨rfl, rfl⟩
 go_wp2_with fail
 refine T5.out.mono ?_
 clear T5
 rintro e w0 ⟨rfl, rfl⟩
 go_wp2_with fail
 refine T6.out.mono ?_
 clear T6
 rintro e w0 ⟨rfl, rfl⟩
 go_wp2_with fail
 refine HB.out.mono ?_
 clear HB hW1
 rintro e w2 ⟨y, rfl, hk, hm⟩
 have HK := Lib.hid hk
 obtain ⟨k, m, tx, nm, ty, A, cap, l, rfl, _, _, _⟩ := hk
 have HM := Lib.hid (HM0.out.trans hm)
 have HBX := Lib.hid (Bx.grown HX0.out hm.1 (by omega))
 clear hm
 have hx2 := HBX.out
 obtain ⟨r0, r1, r2, r3, r4, r5, r6, r7⟩ := hx2.all_8
 have g0 := hx2.fro 0; have g1 := hx2.fro 1; have g2 := hx2.fro 2; have g3 := hx2.fro 3; have g4 := hx2.fro 4; have g5 := hx2.fro 5; have g6 := hx2.fro 6; have g7 := hx2.fro 7
 have HG := Lib.hid (grown_8 w2 w.heap.size (.int .i64 k) (.int .i32 m) (.string tx) (.string nm) (.string ty) (.slice A l.length cap) (.string ⟨#[]⟩) (.int .i64 0))
 clear hx2
 (try simp only [cellsN])
 go_wp2_with fail
 obtain ⟨z0, z1, z2, z3, z4, z5, z6, z7⟩ := (HBX.out.to_8 (.int .i64 k) (.int .i32 m) (.string tx) (.string nm) (.string ty) (.slice A l.length cap) (.string ⟨#[]⟩) (.int .i64 0)).all_8
 (try simp only [Exit.inBlock, Exit.then])
 refine bodyPost_ret (v := .agg #[.int .i64 k, .int .i32 m, .string tx, .string nm, .string ty, .slice A l.length cap, .string ⟨#[]⟩, .int .i64 0]) (by simp [results, Tryz.results149, go_sem, z0, z1, z2, z3, z4, z5, z6, z7]) rfl ?_
 exact ⟨_, rfl, (HK.out.grown HG.out (.inl (by omega))).mono (by omega), Mv.over (Below.refl _ _) HM.out HG.out (Nat.le_refl _) hlt⟩
theorem fixed_7 (n : Nat) (W0 w : World) (c : Nat) (s : RS) (hv : Vars W0) (h : Rd W0 c s w) (hn : enough (n + 1) .fixed s) (h0 : s.sees 0 sTrue = false) (h1 : s.sees 0 sFalse = false) (h2 : s.sees 0 sNull = false) (h3 : s.sees 0 sThis = false) (h4 : s.sees 0 sSuper = false) (h5 : s.sees 0 sNew = false) (h6 : s.sees 0 sOpen = false) : Calls Tryz.prog 149 #[.pointer (some ⟨c, 0, none⟩)] w (ExC W0 c w (run (n + 1) .fixed s)) := by
 have hR : run (n + 1) .fixed s = ([noE], s.fail 3) := by simp only [run, h0, h1, h2, h3, h4, h5, h6]; simp
 have hlt := h.lt
 have hle0 := h.le
 obtain ⟨W1, hW1⟩ : ∃ W1, w.alloc (.cells #[.int .i64 0, .int .i32 0, .string ⟨#[]⟩, .string ⟨#[]⟩, .string ⟨#[]⟩, .slice none 0 0, .string ⟨#[]⟩, .int .i64 0] 36) = W1 := ⟨_, rfl⟩
 have hb : Below w.heap.size w W1 := by rw [← hW1]; exact (Below.refl _ w).alloc (Nat.le_refl _) _
 have hx : Bx W1 w.heap.size #[.int .i64 0, .int .i32 0, .string ⟨#[]⟩, .string ⟨#[]⟩, .string ⟨#[]⟩, .slice none 0 0, .string ⟨#[]⟩, .int .i64 0] 36 := by rw [← hW1]; exact Bx.new _ _ _
 have hz : W1.heap.size = w.heap.size + 1 := by rw [← hW1]; simp
 have HM0 := Lib.hid (Mv.below hb h)
 have HX0 := Lib.hid hx
 clear hb hx
 have T0 := Lib.hid (take_false W0 W1 c s sTrue HM0.out.2 h0)
 have T1 := Lib.hid (take_false W0 W1 c s sFalse HM0.out.2 h1)
 have T2 := Lib.hid (take_false W0 W1 c s sNull HM0.out.2 h2)
 have T3 := Lib.hid (take_false W0 W1 c s sThis HM0.out.2 h3)
 have T4 := Lib.hid (take_false W0 W1 c s sSuper HM0.out.2 h4)
 have T5 := Lib.hid (take_false W0 W1 c s sNew HM0.out.2 h5)
 have T6 := Lib.hid (sees_any W0 W1 c s sOpen HM0.out.2)
 rw [h6] at T6
 have HF := Lib.hid (fail_any W0 W1 c s 3 HM0.out.2)
 rw [hR]
 clear hR hn h hv h0 h1 h2 h3 h4 h5 h6
 go_enter Tryz.func149, Tryz.ntmps149
 go_wp2_with fail
 refine T0.out.mono ?_
 clear T0
 rintro e w0 ⟨rfl, rfl⟩
 go_wp2_with fail
 refine T1.out.mono ?_
 clear T1
 rintro e w0 ⟨rfl, rfl⟩
 go_wp2_with fail
 refine T2.out.mono ?_
 clear T2
 rintro e w0 ⟨rfl, rfl⟩
 go_wp2_with fail
 refine T3.out.mono ?_
 clear T3
 rintro e w0 ⟨rfl, rfl⟩
 go_wp2_with fail
 refine T4.out.mono ?_
 clear T4
 rintro e w0 ⟨rfl, rfl⟩
 go_wp2_with fail
 refine T5.out.mono ?_
 clear T5
 rintro e w0 ⟨rfl, rfl⟩
 go_wp2_with fail
 refine T6.out.mono ?_
 clear T6
 rintro e w0 ⟨rfl, rfl⟩
 go_wp2_with fail
 refine HF.out.mono ?_
 clear HF hW1
 rintro e w2 ⟨rfl, hm⟩
 have HM := Lib.hid (HM0.out.trans hm)
 have HBX := Lib.hid (Bx.grown HX0.out hm.1 (by omega))
 clear hm
 have HK := Lib.hid ((OwnE.nil (w.heap.size + 1) w2).node 0 0 ⟨#[]⟩ ⟨#[]⟩ ⟨#[]⟩ ⟨Nat.zero_le _, Nat.zero_le _, Nat.zero_le _⟩ (mk_bare (xs := []) rfl _ _ _ _ _))
 have hx2 := HBX.out
 obtain ⟨r0, r1, r2, r3, r4, r5, r6, r7⟩ := hx2.all_8
 have g0 := hx2.fro 0; have g1 := hx2.fro 1; have g2 := hx2.fro 2; have g3 := hx2.fro 3; have g4 := hx2.fro 4; have g5 := hx2.fro 5; have g6 := hx2.fro 6; have g7 := hx2.fro 7
 have HG := Lib.hid (grown_8 w2 w.heap.size (.int .i64 0) (.int .i32 0) (.string ⟨#[]⟩) (.string ⟨#[]⟩) (.string ⟨#[]⟩) (.slice none 0 0) (.string ⟨#[]⟩) (.int .i64 0))
 clear hx2
 (try simp only [cellsN])
 go_wp2_with fail
 obtain ⟨z0, z1, z2, z3, z4, z5, z6, z7⟩ := (HBX.out.to_8 (.int .i64 0) (.int .i32 0) (.string ⟨#[]⟩) (.string ⟨#[]⟩) (.string ⟨#[]⟩) (.slice none 0 0) (.string ⟨#[]⟩) (.int .i64 0)).all_8
 (try simp only [Exit.inBlock, Exit.then])
 refine bodyPost_ret (v := .agg #[.int .i64 0, .int .i32 0, .string ⟨#[]⟩, .string ⟨#[]⟩, .string ⟨#[]⟩, .slice none 0 0, .string ⟨#[]⟩, .int .i64 0]) (by simp [results, Tryz.results149, go_sem, z0, z1, z2, z3, z4, z5, z6, z7]) rfl ?_
 exact ⟨.ex 0 0 ⟨#[]⟩ ⟨#[]⟩ ⟨#[]⟩ (.slice none 0 0) [] ⟨#[]⟩ 0, rfl, (HK.out.grown HG.out (.inl (by omega))).mono (by omega), Mv.over (Below.refl _ _) HM.out HG.out (Nat.le_refl _) hlt⟩
theorem fixed_of (n : Nat) (IHU : SpecU n) (IHR : SpecR n) (IHE : SpecE n) : SpecX (n + 1) := by
 intro W0 w c s hv h hn
 cases h0 : s.sees 0 sTrue with
 | true => exact fixed_0 n W0 w c s hv h hn h0
 | false =>
   cases h1 : s.sees 0 sFalse with
   | true => exact fixed_1 n W0 w c s hv h hn h0 h1
   | false =>
     cases h2 : s.sees 0 sNull with
     | true => exact fixed_2 n W0 w c s hv h hn h0 h1 h2
     | false =>
       cases h3 : s.sees 0 sThis with
       | true => exact fixed_3 n W0 w c s hv h hn h0 h1 h2 h3
       | false =>
         cases h4 : s.sees 0 sSuper with
         | true => exact fixed_4 n IHU W0 w c s hv h hn h0 h1 h2 h3 h4
         | false =>
           cases h5 : s.sees 0 sNew with
           | true => exact fixed_5 n IHR W0 w c s hv h hn h0 h1 h2 h3 h4 h5
           | false =>
             cases h6 : s.sees 0 sOpen with
             | true => exact fixed_6 n IHE W0 w c s hv h hn h0 h1 h2 h3 h4 h5 h6
             | false => exact fixed_7 n W0 w c s hv h hn h0 h1 h2 h3 h4 h5 h6
end
section
open Go.RowKit
theorem grown_1 (w : World) (b : Nat) (u0 : Value) : w.grownBy (w.setCell ⟨b, 0, none⟩ u0) (some b) := grown_set_at w b 0 u0
theorem Bx.to_1 {w : World} {b : Nat} {T : TypeId} {x0 : Value} (h : Bx w b #[x0] T) (u0 : Value) : Bx (w.setCell ⟨b, 0, none⟩ u0) b #[u0] T := by
 have := (h.set 0 u0)
 simpa using this
theorem Bx.all_1 {w : World} {b : Nat} {T : TypeId} {x0 : Value} (h : Bx w b #[x0] T) : w.cell? ⟨b, 0, none⟩ = some x0 := h.cell 0
theorem grown_2 (w : World) (b : Nat) (u0 u1 : Value) : w.grownBy ((w.setCell ⟨b, 0, none⟩ u0).setCell ⟨b, 1, none⟩ u1) (some b) := (grown_set_at w b 0 u0).trans (grown_set_at _ b 1 u1)
theorem Bx.to_2 {w : World} {b : Nat} {T : TypeId} {x0 x1 : Value} (h : Bx w b #[x0, x1] T) (u0 u1 : Value) : Bx ((w.setCell ⟨b, 0, none⟩ u0).setCell ⟨b, 1, none⟩ u1) b #[u0, u1] T := by
 have := ((h.set 0 u0).set 1 u1)
 simpa using this
theorem Bx.all_2 {w : World} {b : Nat} {T : TypeId} {x0 x1 : Value} (h : Bx w b #[x0, x1] T) : w.cell? ⟨b, 0, none⟩ = some x0 ∧ w.cell? ⟨b, 1, none⟩ = some x1 := ⟨h.cell 0, h.cell 1⟩
theorem grown_4 (w : World) (b : Nat) (u0 u1 u2 u3 : Value) : w.grownBy ((((w.setCell ⟨b, 0, none⟩ u0).setCell ⟨b, 1, none⟩ u1).setCell ⟨b, 2, none⟩ u2).setCell ⟨b, 3, none⟩ u3) (some b) := (((grown_set_at w b 0 u0).trans (grown_set_at _ b 1 u1)).trans (grown_set_at _ b 2 u2)).trans (grown_set_at _ b 3 u3)
theorem Bx.to_4 {w : World} {b : Nat} {T : TypeId} {x0 x1 x2 x3 : Value} (h : Bx w b #[x0, x1, x2, x3] T) (u0 u1 u2 u3 : Value) : Bx ((((w.setCell ⟨b, 0, none⟩ u0).setCell ⟨b, 1, none⟩ u1).setCell ⟨b, 2, none⟩ u2).setCell ⟨b, 3, none⟩ u3) b #[u0, u1, u2, u3] T := by
 have := ((((h.set 0 u0).set 1 u1).set 2 u2).set 3 u3)
 simpa using this
theorem Bx.all_4 {w : World} {b : Nat} {T : TypeId} {x0 x1 x2 x3 : Value} (h : Bx w b #[x0, x1, x2, x3] T) : w.cell? ⟨b, 0, none⟩ = some x0 ∧ w.cell? ⟨b, 1, none⟩ = some x1 ∧ w.cell? ⟨b, 2, none⟩ = some x2 ∧ w.cell? ⟨b, 3, none⟩ = some x3 := ⟨h.cell 0, h.cell 1, h.cell 2, h.cell 3⟩
theorem grown_6 (w : World) (b : Nat) (u0 u1 u2 u3 u4 u5 : Value) : w.grownBy ((((((w.setCell ⟨b, 0, none⟩ u0).setCell ⟨b, 1, none⟩ u1).setCell ⟨b, 2, none⟩ u2).setCell ⟨b, 3, none⟩ u3).setCell ⟨b, 4, none⟩ u4).setCell ⟨b, 5, none⟩ u5) (some b) := (((((grown_set_at w b 0 u0).trans (grown_set_at _ b 1 u1)).trans (grown_set_at _ b 2 u2)).trans (grown_set_at _ b 3 u3)).trans (grown_set_at _ b 4 u4)).trans (grown_set_at _ b 5 u5)
theorem Bx.to_6 {w : World} {b : Nat} {T : TypeId} {x0 x1 x2 x3 x4 x5 : Value} (h : Bx w b #[x0, x1, x2, x3, x4, x5] T) (u0 u1 u2 u3 u4 u5 : Value) : Bx ((((((w.setCell ⟨b, 0, none⟩ u0).setCell ⟨b, 1, none⟩ u1).setCell ⟨b, 2, none⟩ u2).setCell ⟨b, 3, none⟩ u3).setCell ⟨b, 4, none⟩ u4).setCell ⟨b, 5, none⟩ u5) b #[u0, u1, u2, u3, u4, u5] T := by
 have := ((((((h.set 0 u0).set 1 u1).set 2 u2).set 3 u3).set 4 u4).set 5 u5)
 simpa using this
theorem Bx.all_6 {w : World} {b : Nat} {T : TypeId} {x0 x1 x2 x3 x4 x5 : Value} (h : Bx w b #[x0, x1, x2, x3, x4, x5] T) : w.cell? ⟨b, 0, none⟩ = some x0 ∧ w.cell? ⟨b, 1, none⟩ = some x1 ∧ w.cell? ⟨b, 2, none⟩ = some x2 ∧ w.cell? ⟨b, 3, none⟩ = some x3 ∧ w.cell? ⟨b, 4, none⟩ = some x4 ∧ w.cell? ⟨b, 5, none⟩ = some x5 := ⟨h.cell 0, h.cell 1, h.cell 2, h.cell 3, h.cell 4, h.cell 5⟩
theorem grown_9 (w : World) (b : Nat) (u0 u1 u2 u3 u4 u5 u6 u7 u8 : Value) : w.grownBy (((((((((w.setCell ⟨b, 0, none⟩ u0).setCell ⟨b, 1, none⟩ u1).setCell ⟨b, 2, none⟩ u2).setCell ⟨b, 3, none⟩ u3).setCell ⟨b, 4, none⟩ u4).setCell ⟨b, 5, none⟩ u5).setCell ⟨b, 6, none⟩ u6).setCell ⟨b, 7, none⟩ u7).setCell ⟨b, 8, none⟩ u8) (some b) := ((((((((grown_set_at w b 0 u0).trans (grown_set_at _ b 1 u1)).trans (grown_set_at _ b 2 u2)).trans (grown_set_at _ b 3 u3)).trans (grown_set_at _ b 4 u4)).trans (grown_set_at _ b 5 u5)).trans (grown_set_at _ b 6 u6)).trans (grown_set_at _ b 7 u7)).trans (grown_set_at _ b 8 u8)
theorem Bx.to_9 {w : World} {b : Nat} {T : TypeId} {x0 x1 x2 x3 x4 x5 x6 x7 x8 : Value} (h : Bx w b #[x0, x1, x2, x3, x4, x5, x6, x7, x8] T) (u0 u1 u2 u3 u4 u5 u6 u7 u8 : Value) : Bx (((((((((w.setCell ⟨b, 0, none⟩ u0).setCell ⟨b, 1, none⟩ u1).setCell ⟨b, 2, none⟩ u2).setCell ⟨b, 3, none⟩ u3).setCell ⟨b, 4, none⟩ u4).setCell ⟨b, 5, none⟩ u5).setCell ⟨b, 6, none⟩ u6).setCell ⟨b, 7, none⟩ u7).setCell ⟨b, 8, none⟩ u8) b #[u0, u1, u2, u3, u4, u5, u6, u7, u8] T := by
 have := (((((((((h.set 0 u0).set 1 u1).set 2 u2).set 3 u3).set 4 u4).set 5 u5).set 6 u6).set 7 u7).set 8 u8)
 simpa using this
theorem Bx.all_9 {w : World} {b : Nat} {T : TypeId} {x0 x1 x2 x3 x4 x5 x6 x7 x8 : Value} (h : Bx w b #[x0, x1, x2, x3, x4, x5, x6, x7, x8] T) : w.cell? ⟨b, 0, none⟩ = some x0 ∧ w.cell? ⟨b, 1, none⟩ = some x1 ∧ w.cell? ⟨b, 2, none⟩ = some x2 ∧ w.cell? ⟨b, 3, none⟩ = some x3 ∧ w.cell? ⟨b, 4, none⟩ = some x4 ∧ w.cell? ⟨b, 5, none⟩ = some x5 ∧ w.cell? ⟨b, 6, none⟩ = some x6 ∧ w.cell? ⟨b, 7, none⟩ = some x7 ∧ w.cell? ⟨b, 8, none⟩ = some x8 := ⟨h.cell 0, h.cell 1, h.cell 2, h.cell 3, h.cell 4, h.cell 5, h.cell 6, h.cell 7, h.cell 8⟩
end
section
open Go.RowKit
def FolAt (W0 w : World) (c b2 : Nat) (s : RS) (x : Nd) (k m : Int) (tx nm ty : ByteArray) (A : Option Addr) (cap : Nat) (l : List Nd) (w' : World) : Prop :=
 Mv W0 c s w w' ∧ Bx w' b2 #[.int .i64 k, .int .i32 m, .string tx, .string nm, .string ty, .slice A l.length cap, .string ⟨#[]⟩, .int .i64 0] 36 ∧ Bx w' w.heap.size #[.int .i64 0, .int .i32 0, .string ⟨#[]⟩, .string ⟨#[]⟩, .string ⟨#[]⟩, .slice none 0 0, .string ⟨#[]⟩, .int .i64 0] 36 ∧ ExK (w.heap.size + 1) (some b2) w' x (.ex k m tx nm ty (.slice A l.length cap) l ⟨#[]⟩ 0) ∧ w.heap.size < b2 ∧ c < w.heap.size ∧ W0.heap.size ≤ w.heap.size
section
variable {W0 w w' w'' : World} {c b2 : Nat} {s s2 : RS} {x : Nd} {k m : Int} {tx nm ty : ByteArray} {A : Option Addr} {cap : Nat} {l : List Nd}
theorem FolAt.below (h : FolAt W0 w c b2 s x k m tx nm ty A cap l w') (hb : Below w'.heap.size w' w'') : FolAt W0 w c b2 s x k m tx nm ty A cap l w'' :=
 ⟨h.1.trans (Mv.below hb h.1.2), h.2.1.next hb, h.2.2.1.next hb, h.2.2.2.1.below hb, h.2.2.2.2⟩
theorem FolAt.move (h : FolAt W0 w c b2 s x k m tx nm ty A cap l w') (hm : Mv W0 c s2 w' w'') : FolAt W0 w c b2 s2 x k m tx nm ty A cap l w'' :=
 have h1 := h.2.2.2.2.1
 have h2 := h.2.2.2.2.2
 ⟨h.1.trans hm, h.2.1.grown hm.1 (by omega), h.2.2.1.grown hm.1 (by omega), h.2.2.2.1.grown hm.1 (.inl (by omega)), h.2.2.2.2⟩
theorem ExK.bare {B : Nat} {r : Option Nat} {x y : Nd} (h : ExK B r w x y) : bareN y = bareN x := by obtain ⟨_, _, _, _, _, _, _, _, _, _, _, hb⟩ := h; exact hb
theorem FolAt.one (h : FolAt W0 w c b2 s x k m tx nm ty A cap l w') : OwnR (w.heap.size + 1) (some b2) (w'.alloc (.cells #[.int .i64 k, .int .i32 m, .string tx, .string nm, .string ty, .slice A l.length cap, .string ⟨#[]⟩, .int .i64 0] 36)) (.slice (some ⟨w'.heap.size, 0, none⟩) 1 1) [.ex k m tx nm ty (.slice A l.length cap) l ⟨#[]⟩ 0] := by
 have := OwnR.one h.2.2.2.1 (by have := h.2.1.lt; have := h.2.2.2.2.1; omega)
 simpa only [cellsN] using this
theorem FolAt.put {x' : Nd} {k' m' : Int} {tx' nm' ty' : ByteArray} {A' : Option Addr} {cap' : Nat} {l' : List Nd} (h : FolAt W0 w c b2 s x' k' m' tx' nm' ty' A' cap' l' w') (hk : ExK (w.heap.size + 1) (some b2) w' x (.ex k m tx nm ty (.slice A l.length cap) l ⟨#[]⟩ 0)) :
   FolAt W0 w c b2 s x k m tx nm ty A cap l ((((((((w'.setCell ⟨b2, 0, none⟩ (.int .i64 k)).setCell ⟨b2, 1, none⟩ (.int .i32 m)).setCell ⟨b2, 2, none⟩ (.string tx)).setCell ⟨b2, 3, none⟩ (.string nm)).setCell ⟨b2, 4, none⟩ (.string ty)).setCell ⟨b2, 5, none⟩ (.slice A l.length cap)).setCell ⟨b2, 6, none⟩ (.string ⟨#[]⟩)).setCell ⟨b2, 7, none⟩ (.int .i64 0)) := by
 have hg := grown_8 w' b2 (.int .i64 k) (.int .i32 m) (.string tx) (.string nm) (.string ty) (.slice A l.length cap) (.string ⟨#[]⟩) (.int .i64 0)
 have h1 := h.2.2.2.2.1
 have h3 := h.2.2.2.2.2.2
 exact ⟨Mv.over (Below.refl _ _) h.1 hg (by omega) h.2.2.2.2.2.1, h.2.1.to_8 (.int .i64 k) (.int .i32 m) (.string tx) (.string nm) (.string ty) (.slice A l.length cap) (.string ⟨#[]⟩) (.int .i64 0), h.2.2.1.grown hg (by omega), hk.grown hg (.inr rfl), h.2.2.2.2⟩
end
theorem followed_of (n : Nat) (IHA : SpecA n) (IHU : ∀ m, m ≤ n → SpecU m) : SpecF (n + 1) := by
 intro W0 w c s hv h hn
 obtain ⟨r, hr⟩ : ∃ r, run n .atom s = r := ⟨_, rfl⟩
 obtain ⟨RR, hRR⟩ : ∃ RR, run n (.loopF (hdE r.1)) r.2 = RR := ⟨_, rfl⟩
 have hR : run (n + 1) .followed s = RR := by simp only [run, hr, hRR]
 have hen : enough n .atom s := by simp only [enough, Md.rank] at hn ⊢; omega
 have hl1 : r.2.len ≤ s.len := by have := run_len n .atom s; rw [hr] at this; exact this
 have hen2 : enough n (.loopF (hdE r.1)) r.2 := by simp only [enough, Md.rank] at hn ⊢; omega
 have hlt := h.lt
 have hle0 := h.le
 obtain ⟨W1, hW1⟩ : ∃ W1, w.alloc (.cells #[.int .i64 0, .int .i32 0, .string ⟨#[]⟩, .string ⟨#[]⟩, .string ⟨#[]⟩, .slice none 0 0, .string ⟨#[]⟩, .int .i64 0] 36) = W1 := ⟨_, rfl⟩
 have hb : Below w.heap.size w W1 := by rw [← hW1]; exact (Below.refl _ w).alloc (Nat.le_refl _) _
 have hx : Bx W1 w.heap.size #[.int .i64 0, .int .i32 0, .string ⟨#[]⟩, .string ⟨#[]⟩, .string ⟨#[]⟩, .slice none 0 0, .string ⟨#[]⟩, .int .i64 0] 36 := by rw [← hW1]; exact Bx.new _ _ _
 have hz : W1.heap.size = w.heap.size + 1 := by rw [← hW1]; simp
 have HM0 := Lib.hid (Mv.below hb h)
 have HX0 := Lib.hid hx
 clear hb hx
 have HX := Lib.hid (IHA W0 W1 c s hv HM0.out.2 hen)
 rw [hr] at HX
 rw [hR]
 have HRR := Lib.hid hRR
 have HEN := Lib.hid hen2
 have HIH := Lib.hid IHU
 clear hR hRR hr hen hen2 hn h IHA IHU hl1
 go_enter Tryz.func102, Tryz.ntmps102
 go_wp2_with fail
 refine HX.out.mono ?_
 clear HX hW1
 rintro e w2 ⟨y, rfl, hk, hm⟩
 have hs2 := hm.1.size
 have HK := Lib.hid hk
 obtain ⟨k, m, tx, nm, ty, A, cap, l, rfl, _, _, _⟩ := hk
 have HF := Lib.hid (show FolAt W0 w c w2.heap.size r.2 (hdE r.1) k m tx nm ty A cap l (w2.alloc (.cells #[.int .i64 k, .int .i32 m, .string tx, .string nm, .string ty, .slice A l.length cap, .string ⟨#[]⟩, .int .i64 0] 36)) from
   ⟨(HM0.out.trans hm).trans (Mv.below ((Below.refl _ _).alloc (Nat.le_refl _) _) hm.2), Bx.new _ _ _, (Bx.grown HX0.out hm.1 (by omega)).next ((Below.refl _ _).alloc (Nat.le_refl _) _), (ExK.excl HK.out ((Below.refl _ _).alloc (Nat.le_refl _) _) (Nat.le_refl _)).mono (by omega), by omega, hlt, hle0⟩)
 clear hm HK HM0 HX0
 simp only [cellsN]
 go_wp2_with fail
 go_loopw [7] (fun v7 wr => ∃ (m : Nat) (x : Nd) (s' : RS) (k n' : Int) (tx nm ty : ByteArray) (A : Option Addr) (cap : Nat) (l : List Nd), m ≤ n ∧ run m (.loopF x) s' = RR ∧ enough m (.loopF x) s' ∧ FolAt W0 w c w2.heap.size s' x k n' tx nm ty A cap l wr) (fun v7 wr => lenAt wr c)
 case atStart => exact ⟨n, _, _, k, m, tx, nm, ty, A, cap, l, Nat.le_refl _, HRR.out, HEN.out, HF.out⟩
 case round =>
   obtain ⟨m, x, s', k, n', tx, nm, ty, A, cap, l, hmn, hrun, hen, hf⟩ := hrel
   obtain ⟨m, rfl⟩ : ∃ m', m = m' + 1 := ⟨m - 1, by simp only [enough, Md.rank] at hen; omega⟩
   have hla := lenAt_of hf.1.2
   have HF1 := Lib.hid hf
   have hb2 := hf.2.2.2.2.1
   have hlt2 : w2.heap.size < wr.heap.size := hf.2.1.lt
   cases h0 : s'.sees 0 sDot with
   | true =>
     have T0 := Lib.hid (take_true W0 wr c s' sDot hf.1.2 h0)
     obtain ⟨q, hq⟩ : ∃ q, run m (.used 7 10 E0 [x]) s'.skip = q := ⟨_, rfl⟩
     have hR : run (m + 1) (.loopF x) s' = run m (.loopF (hdE q.1)) q.2 := by simp only [run, h0, hq]; simp
     rw [hR] at hrun
     have h1 := sees_len h0
     have h2 := len_skip s'
     have h3 : q.2.len ≤ s'.skip.len := by have := run_len m (.used 7 10 E0 [x]) s'.skip; rw [hq] at this; exact this
     have hE : enough m (.used 7 10 E0 [x]) s'.skip := by simp only [enough, Md.rank] at hen ⊢; omega
     have hen2 : enough m (.loopF (hdE q.1)) q.2 := by simp only [enough, Md.rank] at hen ⊢; omega
     have HRUN := Lib.hid hrun
     have HEN2 := Lib.hid hen2
     have HU : Hid (∀ w', FolAt W0 w c w2.heap.size s'.skip x k n' tx nm ty A cap l w' → Calls Tryz.prog 133 #[.pointer (some ⟨c, 0, none⟩), .agg #[.int .i64 0, .int .i32 0, .string ⟨#[]⟩, .string ⟨#[]⟩, .string ⟨#[]⟩, .slice (some ⟨w'.heap.size, 0, none⟩) 1 1, .string ⟨#[]⟩, .int .i64 0], .int .i64 7, .int .i64 10] (w'.alloc (.cells #[.int .i64 k, .int .i32 n', .string tx, .string nm, .string ty, .slice A l.length cap, .string ⟨#[]⟩, .int .i64 0] 36)) (UsC W0 (w.heap.size + 1) (some w2.heap.size) c (w'.alloc (.cells #[.int .i64 k, .int .i32 n', .string tx, .string nm, .string ty, .slice A l.length cap, .string ⟨#[]⟩, .int .i64 0] 36)) q)) := by
       show ∀ w', _
       intro w' h'
       have hbw : Below w'.heap.size w' (w'.alloc (.cells #[.int .i64 k, .int .i32 n', .string tx, .string nm, .string ty, .slice A l.length cap, .string ⟨#[]⟩, .int .i64 0] 36)) := (Below.refl _ _).alloc (Nat.le_refl _) _
       have h'' := h'.below hbw
       have hll : w2.heap.size < w'.heap.size := h'.2.1.lt
       have hss := hbw.size
       have := HIH.out m (by omega) W0 _ (w.heap.size + 1) (some w2.heap.size) c s'.skip 7 10 E0 _ [x] _ hv h''.1.2 hE h'.one (bare_one (by obtain ⟨_, _, _, _, _, _, _, _, _, _, _, hb⟩ := h'.2.2.2.1; exact hb)) (by omega) (by omega) ⟨_, rfl⟩ (Nat.le_refl _) (Nat.zero_le _) (by
         intro g hg
         injection hg with hg
         subst hg
         exact ⟨by omega, by simp [Value.ownBlock]; omega⟩)
       rw [hq] at this
       exact this
     clear hR hrun hen hE hen2 hq hf h0
     go_wp2_with fail
     refine T0.out.mono ?_
     clear T0
     rintro e w3 ⟨rfl, hm⟩
     have HF2 := Lib.hid (HF1.out.move hm)
     obtain ⟨a0, a1, a2, a3, a4, a5, a6, a7⟩ := HF2.out.2.1.all_8
     clear hm
     go_wp2_with fail
     refine (HU.out _ HF2.out).mono ?_
     clear HU a0 a1 a2 a3 a4 a5 a6 a7
     rintro e w5 ⟨y, rfl, hk, hm⟩
     have HF3 := Lib.hid ((HF2.out.below ((Below.refl _ _).alloc (Nat.le_refl _) _)).move hm)
     have HK := Lib.hid hk
     obtain ⟨k3, m3, tx3, nm3, ty3, A3, cap3, l3, rfl, _, _, _⟩ := hk
     have HF4 := Lib.hid (HF3.out.put HK.out)
     obtain ⟨r0, r1, r2, r3, r4, r5, r6, r7⟩ := HF3.out.2.1.all_8
     have g0 := HF3.out.2.1.fro 0; have g1 := HF3.out.2.1.fro 1; have g2 := HF3.out.2.1.fro 2; have g3 := HF3.out.2.1.fro 3; have g4 := HF3.out.2.1.fro 4; have g5 := HF3.out.2.1.fro 5; have g6 := HF3.out.2.1.fro 6; have g7 := HF3.out.2.1.fro 7
     clear hm
     simp only [cellsN]
     go_wp2_with fail
     go_roundw
     case rel => exact ⟨m, _, _, _, _, _, _, _, _, _, _, by omega, HRUN.out, HEN2.out, HF4.out⟩
     case measure => rw [hla, lenAt_of HF4.out.1.2]; omega
   | false =>
     cases h1 : s'.sees 0 sAs with
     | true =>
       have T0 := Lib.hid (take_false W0 wr c s' sDot hf.1.2 h0)
       have T1 := Lib.hid (take_true W0 wr c s' sAs hf.1.2 h1)
       have hR : run (m + 1) (.loopF x) s' = run m (.loopF (mkE 15 0 E0 E0 s'.skip.classV [x])) s'.skip.class := by simp only [run, h0, h1]; simp
       rw [hR] at hrun
       have h7 := sees_len h1
       have h8 := len_skip s'
       have h9 := len_class s'.skip
       have hcl := class_len s'.skip
       have hen2 : enough m (.loopF (mkE 15 0 E0 E0 s'.skip.classV [x])) s'.skip.class := by simp only [enough, Md.rank] at hen ⊢; omega
       obtain ⟨cl, hcle⟩ : ∃ cl, s'.skip.classV = cl := ⟨_, rfl⟩
       have HC : Hid (∀ w', FolAt W0 w c w2.heap.size s'.skip x k n' tx nm ty A cap l w' → Calls Tryz.prog 56 #[.pointer (some ⟨c, 0, none⟩)] w' fun e w'' => e = .returned (.string cl) ∧ Mv W0 c s'.skip.class w' w'' ∧ FolAt W0 w c w2.heap.size s'.skip.class x k n' tx nm ty A cap l w'') := by
         show ∀ w', _
         intro w' h'
         refine (classR_any W0 w' c _ h'.1.2).mono ?_
         rintro e w'' ⟨rfl, hm⟩
         exact ⟨by rw [hcle], hm, h'.move hm⟩
       rw [hcle] at hcl hrun hen2
       have HRUN := Lib.hid hrun
       have HEN2 := Lib.hid hen2
       clear hR hrun hen hen2 hf hcle h0 h1
       go_wp2_with fail
       refine T0.out.mono ?_
       clear T0
       rintro e w0 ⟨rfl, rfl⟩
       go_wp2_with fail
       refine T1.out.mono ?_
       clear T1
       rintro e w3 ⟨rfl, hm⟩
       have HF2 := Lib.hid (HF1.out.move hm)
       have HFD : Hid (FolAt W0 w c w2.heap.size s'.skip x k n' tx nm ty A cap l w3.drew) := Lib.hid (HF2.out.below (Below.refl _ _).drew)
       have HFA := Lib.hid (HFD.out.below ((Below.refl _ _).alloc (Nat.le_refl _) (.cells #[.int .i64 k, .int .i32 n', .string tx, .string nm, .string ty, .slice A l.length cap, .string ⟨#[]⟩, .int .i64 0] 36)))
       have HOA := Lib.hid HFD.out.one
       obtain ⟨a0, a1, a2, a3, a4, a5, a6, a7⟩ := HF2.out.2.1.all_8
       have hlt3 : w2.heap.size < w3.drew.heap.size := HFD.out.2.1.lt
       clear hm
       go_wp2_with fail
       go_region_with (go_at_call 56; refine (HC.out _ (by first | exact HFD.out | exact HFA.out)).mono ?_; rintro e w4 ⟨rfl, hm, hf4⟩; have HMC := Lib.hid hm; have HF4 := Lib.hid hf4; obtain ⟨W5, hW5⟩ : ∃ W5, w4.alloc (.cells #[.int .i64 k, .int .i32 n', .string tx, .string nm, .string ty, .slice A l.length cap, .string ⟨#[]⟩, .int .i64 0] 36) = W5 := ⟨_, rfl⟩; have hb5 : Below w4.heap.size w4 W5 := by { rw [← hW5]; exact (Below.refl _ _).alloc (Nat.le_refl _) _ }; have HF5 := Lib.hid (hf4.below hb5); have HO5 := Lib.hid hf4.one; rw [hW5] at HO5; obtain ⟨b0, b1, b3, b4, b5, b6, b7, b8⟩ := hf4.2.1.all_8; obtain ⟨r0, r1, r2, r3, r4, r5, r6, r7⟩ := HF5.out.2.1.all_8; have d0 := hf4.2.1.fro 0; have d1 := hf4.2.1.fro 1; have d2 := hf4.2.1.fro 2; have d3 := hf4.2.1.fro 3; have d4 := hf4.2.1.fro 4; have d5 := hf4.2.1.fro 5; have d6 := hf4.2.1.fro 6; have d7 := hf4.2.1.fro 7; have g0 := HF5.out.2.1.fro 0; have g1 := HF5.out.2.1.fro 1; have g2 := HF5.out.2.1.fro 2; have g3 := HF5.out.2.1.fro 3; have g4 := HF5.out.2.1.fro 4; have g5 := HF5.out.2.1.fro 5; have g6 := HF5.out.2.1.fro 6; have g7 := HF5.out.2.1.fro 7; have hlt4 := hf4.2.1.lt; clear hm hf4 hb5)
       all_goals
         have HK6 : Hid (bareN (mkE 15 0 E0 E0 cl [x]) = .ex 15 0 ⟨#[]⟩ ⟨#[]⟩ cl (.slice none 0 0) (bareL [Nd.ex k n' tx nm ty (.slice A l.length cap) l ⟨#[]⟩ 0]) ⟨#[]⟩ 0) := Lib.hid (mk_bare (bare_one HF2.out.2.2.2.1.bare) _ _ _ _ _)
         have hnA : ∀ g, some w2.heap.size = some g → (Value.slice (some ⟨w3.drew.heap.size, 0, none⟩) 1 1).ownBlock ≠ some g := by intro g hg; injection hg with hg; subst hg; simp only [Value.ownBlock, ne_eq, Option.some.injEq]; omega
         have hn4 : ∀ g, some w2.heap.size = some g → (Value.slice (some ⟨w4.heap.size, 0, none⟩) 1 1).ownBlock ≠ some g := by intro g hg; injection hg with hg; subst hg; simp only [Value.ownBlock, ne_eq, Option.some.injEq]; omega
         have hcc : c < w.heap.size + 1 := by omega
         have hszz : (⟨#[]⟩ : ByteArray).size ≤ maxLen ∧ (⟨#[]⟩ : ByteArray).size ≤ maxLen ∧ cl.size ≤ maxLen := ⟨Nat.zero_le _, Nat.zero_le _, hcl⟩
         have hmn' : m ≤ n := by omega
         clear a0 a1 a2 a3 a4 a5 a6 a7
         go_wp2_with fail
         first
           | (have hk6 := (HOA.out.grown HMC.out.1 hcc).node hnA 15 0 ⟨#[]⟩ ⟨#[]⟩ cl hszz HK6.out
              have HF6 := Lib.hid (HF4.out.put (l := [_]) hk6)
              go_roundw
              case rel => exact ⟨m, _, _, _, _, _, _, _, _, _, _, hmn', HRUN.out, HEN2.out, HF6.out⟩
              case measure => (refine Nat.lt_of_le_of_lt (Nat.le_of_eq (lenAt_of HF6.out.1.2)) ?_; rw [hla]; omega))
           | (have hk6 := HO5.out.node hn4 15 0 ⟨#[]⟩ ⟨#[]⟩ cl hszz HK6.out
              have HF6 := Lib.hid (HF5.out.put (l := [_]) hk6)
              go_roundw
              case rel => exact ⟨m, _, _, _, _, _, _, _, _, _, _, hmn', HRUN.out, HEN2.out, HF6.out⟩
              case measure => (refine Nat.lt_of_le_of_lt (Nat.le_of_eq (lenAt_of HF6.out.1.2)) ?_; rw [hla]; omega))
     | false =>
       cases h2 : s'.sees 0 sIs with
       | true =>
         have T0 := Lib.hid (take_false W0 wr c s' sDot hf.1.2 h0)
         have T1 := Lib.hid (take_false W0 wr c s' sAs hf.1.2 h1)
         have T2 := Lib.hid (take_true W0 wr c s' sIs hf.1.2 h2)
         have hR : run (m + 1) (.loopF x) s' = run m (.loopF (mkE 16 0 E0 E0 s'.skip.classV [x])) s'.skip.class := by simp only [run, h0, h1, h2]; simp
         rw [hR] at hrun
         have h7 := sees_len h2
         have h8 := len_skip s'
         have h9 := len_class s'.skip
         have hcl := class_len s'.skip
         have hen2 : enough m (.loopF (mkE 16 0 E0 E0 s'.skip.classV [x])) s'.skip.class := by simp only [enough, Md.rank] at hen ⊢; omega
         obtain ⟨cl, hcle⟩ : ∃ cl, s'.skip.classV = cl := ⟨_, rfl⟩
         have HC : Hid (∀ w', FolAt W0 w c w2.heap.size s'.skip x k n' tx nm ty A cap l w' → Calls Tryz.prog 56 #[.pointer (some ⟨c, 0, none⟩)] w' fun e w'' => e = .returned (.string cl) ∧ Mv W0 c s'.skip.class w' w'' ∧ FolAt W0 w c w2.heap.size s'.skip.class x k n' tx nm ty A cap l w'') := by
           show ∀ w', _
           intro w' h'
           refine (classR_any W0 w' c _ h'.1.2).mono ?_
           rintro e w'' ⟨rfl, hm⟩
           exact ⟨by rw [hcle], hm, h'.move hm⟩
         rw [hcle] at hcl hrun hen2
         have HRUN := Lib.hid hrun
         have HEN2 := Lib.hid hen2
         clear hR hrun hen hen2 hf hcle h0 h1 h2
         go_wp2_with fail
         refine T0.out.mono ?_
         clear T0
         rintro e w0 ⟨rfl, rfl⟩
         go_wp2_with fail
         refine T1.out.mono ?_
         clear T1
         rintro e w0 ⟨rfl, rfl⟩
         go_wp2_with fail
         refine T2.out.mono ?_
         clear T2
         rintro e w3 ⟨rfl, hm⟩
         have HF2 := Lib.hid (HF1.out.move hm)
         have HFD : Hid (FolAt W0 w c w2.heap.size s'.skip x k n' tx nm ty A cap l w3.drew) := Lib.hid (HF2.out.below (Below.refl _ _).drew)
         have HFA := Lib.hid (HFD.out.below ((Below.refl _ _).alloc (Nat.le_refl _) (.cells #[.int .i64 k, .int .i32 n', .string tx, .string nm, .string ty, .slice A l.length cap, .string ⟨#[]⟩, .int .i64 0] 36)))
         have HOA := Lib.hid HFD.out.one
         obtain ⟨a0, a1, a2, a3, a4, a5, a6, a7⟩ := HF2.out.2.1.all_8
         have hlt3 : w2.heap.size < w3.drew.heap.size := HFD.out.2.1.lt
         clear hm
         go_wp2_with fail
         go_region_with (go_at_call 56; refine (HC.out _ (by first | exact HFD.out | exact HFA.out)).mono ?_; rintro e w4 ⟨rfl, hm, hf4⟩; have HMC := Lib.hid hm; have HF4 := Lib.hid hf4; obtain ⟨W5, hW5⟩ : ∃ W5, w4.alloc (.cells #[.int .i64 k, .int .i32 n', .string tx, .string nm, .string ty, .slice A l.length cap, .string ⟨#[]⟩, .int .i64 0] 36) = W5 := ⟨_, rfl⟩; have hb5 : Below w4.heap.size w4 W5 := by { rw [← hW5]; exact (Below.refl _ _).alloc (Nat.le_refl _) _ }; have HF5 := Lib.hid (hf4.below hb5); have HO5 := Lib.hid hf4.one; rw [hW5] at HO5; obtain ⟨b0, b1, b3, b4, b5, b6, b7, b8⟩ := hf4.2.1.all_8; obtain ⟨r0, r1, r2, r3, r4, r5, r6, r7⟩ := HF5.out.2.1.all_8; have d0 := hf4.2.1.fro 0; have d1 := hf4.2.1.fro 1; have d2 := hf4.2.1.fro 2; have d3 := hf4.2.1.fro 3; have d4 := hf4.2.1.fro 4; have d5 := hf4.2.1.fro 5; have d6 := hf4.2.1.fro 6; have d7 := hf4.2.1.fro 7; have g0 := HF5.out.2.1.fro 0; have g1 := HF5.out.2.1.fro 1; have g2 := HF5.out.2.1.fro 2; have g3 := HF5.out.2.1.fro 3; have g4 := HF5.out.2.1.fro 4; have g5 := HF5.out.2.1.fro 5; have g6 := HF5.out.2.1.fro 6; have g7 := HF5.out.2.1.fro 7; have hlt4 := hf4.2.1.lt; clear hm hf4 hb5)
         all_goals
           have HK6 : Hid (bareN (mkE 16 0 E0 E0 cl [x]) = .ex 16 0 ⟨#[]⟩ ⟨#[]⟩ cl (.slice none 0 0) (bareL [Nd.ex k n' tx nm ty (.slice A l.length cap) l ⟨#[]⟩ 0]) ⟨#[]⟩ 0) := Lib.hid (mk_bare (bare_one HF2.out.2.2.2.1.bare) _ _ _ _ _)
           have hnA : ∀ g, some w2.heap.size = some g → (Value.slice (some ⟨w3.drew.heap.size, 0, none⟩) 1 1).ownBlock ≠ some g := by intro g hg; injection hg with hg; subst hg; simp only [Value.ownBlock, ne_eq, Option.some.injEq]; omega
           have hn4 : ∀ g, some w2.heap.size = some g → (Value.slice (some ⟨w4.heap.size, 0, none⟩) 1 1).ownBlock ≠ some g := by intro g hg; injection hg with hg; subst hg; simp only [Value.ownBlock, ne_eq, Option.some.injEq]; omega
           have hcc : c < w.heap.size + 1 := by omega
           have hszz : (⟨#[]⟩ : ByteArray).size ≤ maxLen ∧ (⟨#[]⟩ : ByteArray).size ≤ maxLen ∧ cl.size ≤ maxLen := ⟨Nat.zero_le _, Nat.zero_le _, hcl⟩
           have hmn' : m ≤ n := by omega
           clear a0 a1 a2 a3 a4 a5 a6 a7
           go_wp2_with fail
           first
             | (have hk6 := (HOA.out.grown HMC.out.1 hcc).node hnA 16 0 ⟨#[]⟩ ⟨#[]⟩ cl hszz HK6.out
                have HF6 := Lib.hid (HF4.out.put (l := [_]) hk6)
                go_roundw
                case rel => exact ⟨m, _, _, _, _, _, _, _, _, _, _, hmn', HRUN.out, HEN2.out, HF6.out⟩
                case measure => (refine Nat.lt_of_le_of_lt (Nat.le_of_eq (lenAt_of HF6.out.1.2)) ?_; rw [hla]; omega))
             | (have hk6 := HO5.out.node hn4 16 0 ⟨#[]⟩ ⟨#[]⟩ cl hszz HK6.out
                have HF6 := Lib.hid (HF5.out.put (l := [_]) hk6)
                go_roundw
                case rel => exact ⟨m, _, _, _, _, _, _, _, _, _, _, hmn', HRUN.out, HEN2.out, HF6.out⟩
                case measure => (refine Nat.lt_of_le_of_lt (Nat.le_of_eq (lenAt_of HF6.out.1.2)) ?_; rw [hla]; omega))
       | false =>
         have T0 := Lib.hid (take_false W0 wr c s' sDot hf.1.2 h0)
         have T1 := Lib.hid (take_false W0 wr c s' sAs hf.1.2 h1)
         have T2 := Lib.hid (take_false W0 wr c s' sIs hf.1.2 h2)
         have hR : run (m + 1) (.loopF x) s' = ([x], s') := by simp only [run, h0, h1, h2]; simp
         rw [hR] at hrun
         subst hrun
         have HF3 := HF1
         clear hR hen hf h0 h1 h2
         go_wp2_with fail
         refine T0.out.mono ?_
         clear T0
         rintro e w0 ⟨rfl, rfl⟩
         go_wp2_with fail
         refine T1.out.mono ?_
         clear T1
         rintro e w0 ⟨rfl, rfl⟩
         go_wp2_with fail
         refine T2.out.mono ?_
         clear T2
         rintro e w0 ⟨rfl, rfl⟩
         have hx2 := HF3.out.2.2.1
         obtain ⟨r0, r1, r2, r3, r4, r5, r6, r7⟩ := hx2.all_8
         have g0 := hx2.fro 0; have g1 := hx2.fro 1; have g2 := hx2.fro 2; have g3 := hx2.fro 3; have g4 := hx2.fro 4; have g5 := hx2.fro 5; have g6 := hx2.fro 6; have g7 := hx2.fro 7
         obtain ⟨a0, a1, a2, a3, a4, a5, a6, a7⟩ := HF3.out.2.1.all_8
         have HG := Lib.hid (grown_8 wr w.heap.size (.int .i64 k) (.int .i32 n') (.string tx) (.string nm) (.string ty) (.slice A l.length cap) (.string ⟨#[]⟩) (.int .i64 0))
         clear hx2
         go_wp2_with fail
         obtain ⟨z0, z1, z2, z3, z4, z5, z6, z7⟩ := (HF3.out.2.2.1.to_8 (.int .i64 k) (.int .i32 n') (.string tx) (.string nm) (.string ty) (.slice A l.length cap) (.string ⟨#[]⟩) (.int .i64 0)).all_8
         (try simp only [Exit.inBlock, Exit.then])
         refine bodyPost_ret (v := .agg #[.int .i64 k, .int .i32 n', .string tx, .string nm, .string ty, .slice A l.length cap, .string ⟨#[]⟩, .int .i64 0]) (by simp [results, Tryz.results102, go_sem, z0, z1, z2, z3, z4, z5, z6, z7]) rfl ?_
         exact ⟨_, rfl, (HF3.out.2.2.2.1.free.grown HG.out (.inl (by omega))).mono (by omega), Mv.over (Below.refl _ _) HF3.out.1 HG.out (Nat.le_refl _) hlt⟩
end
end Go.Proofs.YtnbfajmdfkgebaaGreatDoor
