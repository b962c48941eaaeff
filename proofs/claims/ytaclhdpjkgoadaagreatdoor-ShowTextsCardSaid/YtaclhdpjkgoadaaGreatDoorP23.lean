/- Parts of the proof: UsA, Us, Ss, Own. -/
import Derived.Test.YtaclhdpjkgoadaaGreatDoorP9
import Derived.Deep.RegionLaw
set_option maxHeartbeats 4000000
set_option maxRecDepth 100000
namespace Go.Proofs.YtaclhdpjkgoadaaGreatDoor
set_option linter.unusedSimpArgs false
set_option linter.unusedVariables false
section
open Go.RowKit
theorem run_append_full {P : Program} {w : World} (t ty e : TypeId) (i : TypeInfo) (z : Value) (size bytes : Nat) (ht : P.underlying t = some (.slice e)) (hi : P.info? e = some i) (hz : i.zero = some z)
   (hsize : i.size = size) (hby : i.bytes = bytes) (hzs : z.cells.size = size) (hsz : 0 < size)
   (B : Nat) (A : Option Addr) (n : Nat) (xs : List Value) (hown : w.ownsRow B e size (.slice A n n) n xs) (B2 : Nat) (v2 : Value) (m : Nat) (news : List Value) (hown2 : w.ownsRow B2 e size v2 m news)
   (h1 : ∀ u ∈ news, u.oneCell' = true) (h63 : n + m ≤ maxLen) (hbytes : (n + m) * bytes ≤ 140737488355328) (hB : B ≤ w.heap.size) :
   ∃ v' w', (Builtin.append_ #[t, t] ty #[.slice A n n, v2]).run P w = .ok v' w' ∧ w'.ownsRow B e size v' (n + m) (xs ++ news) ∧ w.grownBy w' none ∧ (v'.ownBlock = (Value.slice A n n).ownBlock ∨ ∃ k, v'.ownBlock = some k ∧ w.heap.size ≤ k) := by
 have ho2 := hown2
 have ho1 := hown
 rcases hown2 with ⟨hl, ⟨rfl, rfl⟩ | ⟨g, cap, cur, rfl, _⟩⟩
 · have hn : news = [] := by simpa using hl
   subst hn
   exact ⟨_, _, run_append_owned_none (P := P) w B t ty e i size ht hi _ n xs hown, by simpa using hown, grown_refl w _, .inl rfl⟩
 · have hnews : ∀ j u, news[j]? = some u → w.cell? ((⟨g, 0, none⟩ : Addr).add j) = some u := fun j u hj => ho2.cells (g := g) rfl j u hj
   by_cases hm : m = 0
   · subst hm
     have hn : news = [] := by simpa using hl
     subst hn
     rcases hown with ⟨hlx, ⟨hv, hn0⟩ | ⟨g1, cap1, cur1, hv, _⟩⟩
     · injection hv with hA hn1 hn2
       subst hA hn0
       have hx0 : xs = [] := by simpa using hlx
       subst hx0
       obtain ⟨v', w', hr, r1, r2, r3⟩ := run_append_own (P := P) (w := w) w.heap.size t ty e i z size bytes ht hi hz hsize hby hzs hsz (.slice none 0 0) 0 [] (World.ownsRow_nil w _ e size) ⟨g, 0, none⟩ 0 cap [] hl hnews h1 h63 hbytes (Nat.le_refl _)
       refine ⟨v', w', hr, own_base r1 hB, r2, ?_⟩
       have := r3.2 ⟨rfl, rfl⟩
       subst this
       exact .inl rfl
     · injection hv with hA hn1 hn2
       subst hA
       have hr := run_append_room_cells (P := P) (w := w) t ty e i ht hi g1 0 n n ⟨g, 0, none⟩ 0 cap [] (by simp) hnews h1 (Nat.le_refl _) (by simp) (by simp)
       exact ⟨_, _, hr, by simpa [World.setCells] using ho1, by simpa [World.setCells] using grown_refl w none, .inl rfl⟩
   · cases A with
     | none =>
       rcases hown with ⟨hlx, ⟨hv, hn0⟩ | ⟨g1, cap1, cur1, hv, _⟩⟩
       · subst hn0
         have hx0 : xs = [] := by simpa using hlx
         subst hx0
         obtain ⟨v', w', hr, r1, r2, r3⟩ := run_append_own (P := P) (w := w) w.heap.size t ty e i z size bytes ht hi hz hsize hby hzs hsz (.slice none 0 0) 0 [] (World.ownsRow_nil w _ e size) ⟨g, 0, none⟩ m cap news hl hnews h1 h63 hbytes (Nat.le_refl _)
         refine ⟨v', w', hr, own_base r1 hB, r2, ?_⟩
         cases hv' : v'.ownBlock with
         | none => exact .inl rfl
         | some k => exact .inr ⟨k, rfl, (r1.lt k hv').1⟩
       · cases hv
     | some b =>
       have hb : b.spot = none ∧ b.off = 0 := by
         rcases hown with ⟨_, ⟨hv, _⟩ | ⟨g1, cap1, cur1, hv, _⟩⟩
         · cases hv
         · injection hv with hA; injection hA with hA; subst hA; exact ⟨rfl, rfl⟩
       obtain ⟨v', w', hr, r1, r2⟩ := run_append_arg_grows (P := P) (w := w) t ty e i z size bytes ht hi hz hsize hby hzs hsz b n n xs ho1.1 (fun j u hj => by
         have := ho1.cells (g := b.block) rfl j u hj
         obtain ⟨bb, bo, bs⟩ := b
         simp only at hb
         obtain ⟨rfl, rfl⟩ := hb
         exact this) ⟨g, 0, none⟩ m cap news hl hnews (by omega) h63 hbytes
       refine ⟨v', w', hr, own_base r1 hB, r2, ?_⟩
       cases hv' : v'.ownBlock with
       | none =>
         rcases r1.2 with ⟨_, hn⟩ | ⟨g', c', cu', rfl, _⟩
         · omega
         · cases hv'
       | some k => exact .inr ⟨k, rfl, (r1.lt k hv').1⟩
theorem step_append_full {P : Program} {ops : Array Oper} {o : Oper} {a : Act} {w : World} {K : Act → World → Prop} {Q : Exit → Act → World → Prop} {E : Prop}
   (hg : o.guard = none) (s x : Operand) (t : TypeId) (hop : o.op = Op.call { callee := Callee.builtin Builtin.append, args := #[s, x], argTypes := #[t, t] })
   (e : TypeId) (i : TypeInfo) (z : Value) (size bytes : Nat) (ht : P.underlying t = some (.slice e)) (hi : P.info? e = some i) (hz : i.zero = some z)
   (hsize : i.size = size) (hby : i.bytes = bytes) (hzs : z.cells.size = size) (hsz : 0 < size)
   (B : Nat) (A : Option Addr) (n : Nat) (xs : List Value) (hs : a.eval s = .slice A n n) (hown : w.ownsRow B e size (.slice A n n) n xs) (B2 : Nat) (v2 : Value) (m : Nat) (news : List Value) (hx : a.eval x = v2) (hown2 : w.ownsRow B2 e size v2 m news)
   (h1 : ∀ u ∈ news, u.oneCell' = true) (h63 : n + m ≤ maxLen) (hbytes : (n + m) * bytes ≤ 140737488355328) (hB : B ≤ w.heap.size)
   (hK : ∀ v' w', w'.ownsRow B e size v' (n + m) (xs ++ news) → w.grownBy w' none → (v'.ownBlock = (Value.slice A n n).ownBlock ∨ ∃ k, v'.ownBlock = some k ∧ w.heap.size ≤ k) → K (a.put o.dst v') w') :
   if Region.wanted o (yielded ops a.tmps) = true then Oper.wp P o a w K Q else E := by
 have hw : Region.wanted o (yielded ops a.tmps) = true := by simp [Region.wanted, hg]
 rw [if_pos hw]
 obtain ⟨v', w', hr, r1, r2, r3⟩ := run_append_full (P := P) t o.type e i z size bytes ht hi hz hsize hby hzs hsz B A n xs hown B2 v2 m news hown2 h1 h63 hbytes hB
 unfold Oper.wp
 simp [execOp, hop, resolve, invoke, builtin, hs, hx, hr, Result.andThen]
 exact hK v' w' r1 r2 r3
theorem OwnR.app2 {B B2 : Nat} {r : Option Nat} {w w5 w' : World} {v v2 v' : Value} {xs ys : List Nd} (h : OwnR B r w v xs) (h2 : OwnE B2 w5 v2 ys) (hB : B ≤ B2) (hm : xs.length + ys.length ≤ 2000000) (hr : ∀ g, r = some g → g < B2)
   (ho : w'.ownsRow B 26 8 v' (xs.length + ys.length) (xs.flatMap cellsN ++ ys.flatMap cellsN))
   (k1 : ∀ k j u, B ≤ k → k < w.heap.size → some k ≠ v.ownBlock → w.cell? ⟨k, j, none⟩ = some u → w'.cell? ⟨k, j, none⟩ = some u ∧ some k ≠ v'.ownBlock)
   (k2 : ∀ k j u, B2 ≤ k → k < w5.heap.size → w5.cell? ⟨k, j, none⟩ = some u → w'.cell? ⟨k, j, none⟩ = some u ∧ some k ≠ v'.ownBlock) : OwnR B r w' v' (xs ++ ys) := by
 refine ⟨by simpa using ho, fun y hy => ?_, fun ws hs => KdL_append (h.2.2.1 ws fun k j u hk hne hne2 hu => ?_) (h2.2.2.1 ws fun k j u hk hne hu => ?_), by simpa using hm⟩
 · rcases List.mem_append.1 hy with hy | hy
   · exact h.2.1 y hy
   · exact h2.2.1 y hy
 · have hlt : k < w.heap.size := World.block_lt_of_cell? w (a := ⟨k, j, none⟩) hu
   exact hs k j u hk (k1 k j u hk hlt hne hu).2 hne2 (k1 k j u hk hlt hne hu).1
 · have hlt : k < w5.heap.size := World.block_lt_of_cell? w5 (a := ⟨k, j, none⟩) hu
   exact hs k j u (Nat.le_trans hB hk) (k2 k j u hk hlt hu).2 (fun e => by have := hr k e.symm; omega) (k2 k j u hk hlt hu).1
end
section
open Go.RowKit
theorem name_len (s : RS) : s.nameV.size ≤ maxLen := by
 unfold RS.nameV byV RS.calledV
 unfold maxLen
 split
 · split
   · rename_i h; omega
   · exact Nat.zero_le _
 · exact Nat.zero_le _
theorem class_len (s : RS) : s.classV.size ≤ maxLen := by
 unfold RS.classV byV RS.calledV
 unfold maxLen
 split
 · split
   · rename_i h; omega
   · exact Nat.zero_le _
 · exact Nat.zero_le _
theorem cell_past {w w' w'' : World} {b1 b2 k j : Nat} {u : Value} (h1 : w.grownBy w' (some b1)) (h2 : w'.grownBy w'' (some b2)) (hu : w.cell? ⟨k, j, none⟩ = some u) (n1 : k ≠ b1) (n2 : k ≠ b2) : w''.cell? ⟨k, j, none⟩ = some u :=
 h2.cell (h1.cell hu (by simpa using n1)) (by simpa using n2)
theorem below_none {w w' : World} (h : w.grownBy w' none) : Below w.heap.size w w' := (Below.refl _ w).grown h (Nat.le_refl _) (by simp)
theorem us_c1 {ys zs : List Nd} {l : List Nd} {a b : Nat} (hl : ys.length ≤ 1) (hz : bareL zs = bareL l) (hw : l.length ≤ a + 1) (hf : b ≤ 1000000) (ha : a ≤ b - 1) : ys.length + zs.length ≤ maxLen := by
 have := len_of_bare hz
 unfold maxLen; omega
theorem us_c2 {ys zs : List Nd} {l : List Nd} {a b : Nat} (hl : ys.length ≤ 1) (hz : bareL zs = bareL l) (hw : l.length ≤ a + 1) (hf : b ≤ 1000000) (ha : a ≤ b - 1) : (ys.length + zs.length) * 112 ≤ 140737488355328 := by
 have := len_of_bare hz
 omega
theorem used_no (n : Nat) (IH : SpecR n) (W0 w : World) (B : Nat) (ro : Option Nat) (c : Nat) (s : RS) (p k : Int) (ty : ByteArray) (A : Option Addr) (xs ys : List Nd) (hv : Vars W0) (h : Rd W0 c s w) (hn : enough (n + 1) (.used p k ty xs) s) (ho : OwnR B ro w (.slice A ys.length ys.length) ys) (hbr : bareL ys = bareL xs) (hcB : c < B) (hBw : B ≤ w.heap.size) (hl : ys.length ≤ 1) (hty : ty.size ≤ maxLen) (hro : ∀ g, ro = some g → g < w.heap.size ∧ (Value.slice A ys.length ys.length).ownBlock ≠ some g) (hsee : s.name.sees 0 sOpen = false) :
   Calls Tryz.prog 119 #[.pointer (some ⟨c, 0, none⟩), .agg #[.int .i64 0, .int .i32 0, .string ⟨#[]⟩, .string ⟨#[]⟩, .string ty, .slice A ys.length ys.length, .string ⟨#[]⟩, .int .i64 0], .int .i64 p, .int .i64 k] w (UsC W0 B ro c w (run (n + 1) (.used p k ty xs) s)) := by
 have hR : run (n + 1) (.used p k ty xs) s = ([mkE p 0 E0 s.nameV ty xs], s.name) := by simp only [run, hsee]; simp
 have hlt := h.lt
 have hle0 := h.le
 have hnm := name_len s
 obtain ⟨nm, hnme⟩ : ∃ nm, s.nameV = nm := ⟨_, rfl⟩
 rw [hnme] at hnm
 obtain ⟨W1, hW1⟩ : ∃ W1, (w.alloc (.cells #[.int .i64 0, .int .i32 0, .string ⟨#[]⟩, .string ⟨#[]⟩, .string ty, .slice A ys.length ys.length, .string ⟨#[]⟩, .int .i64 0] 26)).alloc (.cells #[.int .i64 0, .int .i32 0, .string ⟨#[]⟩, .string ⟨#[]⟩, .string ⟨#[]⟩, .slice none 0 0, .string ⟨#[]⟩, .int .i64 0] 26) = W1 := ⟨_, rfl⟩
 have hb : Below w.heap.size w W1 := by rw [← hW1]; exact ((Below.refl _ w).alloc (Nat.le_refl _) _).alloc (by simp) _
 have hx1 : Bx W1 w.heap.size #[.int .i64 0, .int .i32 0, .string ⟨#[]⟩, .string ⟨#[]⟩, .string ty, .slice A ys.length ys.length, .string ⟨#[]⟩, .int .i64 0] 26 := by rw [← hW1]; exact (Bx.new _ _ _).next ((Below.refl _ _).alloc (Nat.le_refl _) _)
 have hx2 : Bx W1 (w.heap.size + 1) #[.int .i64 0, .int .i32 0, .string ⟨#[]⟩, .string ⟨#[]⟩, .string ⟨#[]⟩, .slice none 0 0, .string ⟨#[]⟩, .int .i64 0] 26 := by
   rw [← hW1]
   have := Bx.new (w.alloc (.cells #[.int .i64 0, .int .i32 0, .string ⟨#[]⟩, .string ⟨#[]⟩, .string ty, .slice A ys.length ys.length, .string ⟨#[]⟩, .int .i64 0] 26)) #[.int .i64 0, .int .i32 0, .string ⟨#[]⟩, .string ⟨#[]⟩, .string ⟨#[]⟩, .slice none 0 0, .string ⟨#[]⟩, .int .i64 0] 26
   simpa using this
 have HM0 := Lib.hid (Mv.below hb h)
 have HN := Lib.hid (nameR_any W0 W1 c s HM0.out.2)
 rw [hnme] at HN
 have HX1 := Lib.hid hx1
 have HX2 := Lib.hid hx2
 have HO := Lib.hid ho
 clear hx1 hx2 hb ho
 obtain ⟨s1, hs1⟩ : ∃ s1, s.name = s1 := ⟨_, rfl⟩
 rw [hs1] at HN hsee
 rw [hR]
 rw [hnme, hs1]
 clear hnme hs1 hR hn IH hv
 go_enter Tryz.func119, Tryz.ntmps119
 go_wp2_with fail
 refine HN.out.mono ?_
 clear HN hW1
 rintro e w2 ⟨rfl, hm⟩
 have hs2 := hm.1.size
 have hs1' := HM0.out.1.size
 have hlW : w.heap.size + 1 < W1.heap.size := HX2.out.lt
 have hy1 : Bx w2 w.heap.size #[.int .i64 0, .int .i32 0, .string ⟨#[]⟩, .string ⟨#[]⟩, .string ty, .slice A ys.length ys.length, .string ⟨#[]⟩, .int .i64 0] 26 := Bx.grown HX1.out hm.1 (by omega)
 have hy2 := Lib.hid (Bx.grown HX2.out hm.1 (by omega))
 obtain ⟨W3, hW3⟩ : ∃ W3, (w2.setCell ⟨w.heap.size, 0, none⟩ (.int .i64 p)).setCell ⟨w.heap.size, 3, none⟩ (.string nm) = W3 := ⟨_, rfl⟩
 have hg3 : w2.grownBy W3 (some w.heap.size) := by rw [← hW3]; exact (grown_set_at _ _ _ _).trans (grown_set_at _ _ _ _)
 have hz1 : Bx W3 w.heap.size #[.int .i64 p, .int .i32 0, .string ⟨#[]⟩, .string nm, .string ty, .slice A ys.length ys.length, .string ⟨#[]⟩, .int .i64 0] 26 := by
   rw [← hW3]
   have := (hy1.set 0 (.int .i64 p)).set 3 (.string nm)
   simpa using this
 have hz2 := Lib.hid (Bx.grown hy2.out hg3 (by omega))
 have HM3 := Lib.hid (Mv.over (Below.refl _ _) (HM0.out.trans hm) hg3 (Nat.le_refl _) hlt)
 have HZ1 := Lib.hid hz1
 have HS := Lib.hid (sees_any W0 W3 c s1 sOpen HM3.out.2)
 rw [hsee] at HS
 obtain ⟨r0, r1, r2, r3, r4, r5, r6, r7⟩ := hy1.all_8
 have g0 := hy1.fro 0; have g3 := hy1.fro 3
 have hs23 := hg3.size
 clear hm hy1 hy2 hg3 hz1
 go_wp2_with fail
 refine HS.out.mono ?_
 clear HS hW3
 rintro e w3 ⟨rfl, rfl⟩
 have hs3 := HM3.out.1.size
 clear r0 r1 r2 r3 r4 r5 r6 r7 g0 g3
 obtain ⟨r0, r1, r2, r3, r4, r5, r6, r7⟩ := HZ1.out.all_8
 have hx2 := hz2.out
 obtain ⟨a0, a1, a2, a3, a4, a5, a6, a7⟩ := hx2.all_8
 have g0 := hx2.fro 0; have g1 := hx2.fro 1; have g2 := hx2.fro 2; have g3 := hx2.fro 3; have g4 := hx2.fro 4; have g5 := hx2.fro 5; have g6 := hx2.fro 6; have g7 := hx2.fro 7
 have HG := Lib.hid (grown_8 W3 (w.heap.size + 1) (.int .i64 p) (.int .i32 0) (.string ⟨#[]⟩) (.string nm) (.string ty) (.slice A ys.length ys.length) (.string ⟨#[]⟩) (.int .i64 0))
 clear hx2
 go_wp2_with fail
 obtain ⟨z0, z1, z2, z3, z4, z5, z6, z7⟩ := (hz2.out.to_8 (.int .i64 p) (.int .i32 0) (.string ⟨#[]⟩) (.string nm) (.string ty) (.slice A ys.length ys.length) (.string ⟨#[]⟩) (.int .i64 0)).all_8
 (try simp only [Exit.inBlock, Exit.then])
 refine bodyPost_ret (v := .agg #[.int .i64 p, .int .i32 0, .string ⟨#[]⟩, .string nm, .string ty, .slice A ys.length ys.length, .string ⟨#[]⟩, .int .i64 0]) (by simp [results, Tryz.results119, go_sem, z0, z1, z2, z3, z4, z5, z6, z7]) rfl ?_
 have hmv := Mv.over (Below.refl _ _) HM3.out HG.out (by omega) hlt
 exact ⟨_, rfl, (HO.out.grown hmv.1 hcB).node (fun g hg => (hro g hg).2) p 0 ⟨#[]⟩ nm ty ⟨Nat.zero_le _, hnm, hty⟩ (mk_bare hbr _ _ _ _ _), hmv⟩
theorem used_yes (n : Nat) (IH : SpecR n) (W0 w : World) (B : Nat) (ro : Option Nat) (c : Nat) (s : RS) (p k : Int) (ty : ByteArray) (A : Option Addr) (xs ys : List Nd) (hv : Vars W0) (h : Rd W0 c s w) (hn : enough (n + 1) (.used p k ty xs) s) (ho : OwnR B ro w (.slice A ys.length ys.length) ys) (hbr : bareL ys = bareL xs) (hcB : c < B) (hBw : B ≤ w.heap.size) (hl : ys.length ≤ 1) (hty : ty.size ≤ maxLen) (hro : ∀ g, ro = some g → g < w.heap.size ∧ (Value.slice A ys.length ys.length).ownBlock ≠ some g) (hsee : s.name.sees 0 sOpen = true) :
   Calls Tryz.prog 119 #[.pointer (some ⟨c, 0, none⟩), .agg #[.int .i64 0, .int .i32 0, .string ⟨#[]⟩, .string ⟨#[]⟩, .string ty, .slice A ys.length ys.length, .string ⟨#[]⟩, .int .i64 0], .int .i64 p, .int .i64 k] w (UsC W0 B ro c w (run (n + 1) (.used p k ty xs) s)) := by
 obtain ⟨q, hq⟩ : ∃ q, run n .args s.name = q := ⟨_, rfl⟩
 have hR : run (n + 1) (.used p k ty xs) s = ([mkE k 0 E0 s.nameV ty (xs ++ q.1)], q.2) := by simp only [run, hsee, hq]; simp
 have hle := sees_len hsee
 have hln := len_name s
 have hen : enough n .args s.name := by simp only [enough, Md.rank] at hn ⊢; omega
 have hwide : q.1.length ≤ s.name.len + 1 := by have := run_wide n .args s.name; rw [hq] at this; exact this
 have hfew := h.few
 have hlt := h.lt
 have hle0 := h.le
 have hnm := name_len s
 obtain ⟨nm, hnme⟩ : ∃ nm, s.nameV = nm := ⟨_, rfl⟩
 rw [hnme] at hnm
 obtain ⟨W1, hW1⟩ : ∃ W1, (w.alloc (.cells #[.int .i64 0, .int .i32 0, .string ⟨#[]⟩, .string ⟨#[]⟩, .string ty, .slice A ys.length ys.length, .string ⟨#[]⟩, .int .i64 0] 26)).alloc (.cells #[.int .i64 0, .int .i32 0, .string ⟨#[]⟩, .string ⟨#[]⟩, .string ⟨#[]⟩, .slice none 0 0, .string ⟨#[]⟩, .int .i64 0] 26) = W1 := ⟨_, rfl⟩
 have hb : Below w.heap.size w W1 := by rw [← hW1]; exact ((Below.refl _ w).alloc (Nat.le_refl _) _).alloc (by simp) _
 have hx1 : Bx W1 w.heap.size #[.int .i64 0, .int .i32 0, .string ⟨#[]⟩, .string ⟨#[]⟩, .string ty, .slice A ys.length ys.length, .string ⟨#[]⟩, .int .i64 0] 26 := by rw [← hW1]; exact (Bx.new _ _ _).next ((Below.refl _ _).alloc (Nat.le_refl _) _)
 have hx2 : Bx W1 (w.heap.size + 1) #[.int .i64 0, .int .i32 0, .string ⟨#[]⟩, .string ⟨#[]⟩, .string ⟨#[]⟩, .slice none 0 0, .string ⟨#[]⟩, .int .i64 0] 26 := by
   rw [← hW1]
   have := Bx.new (w.alloc (.cells #[.int .i64 0, .int .i32 0, .string ⟨#[]⟩, .string ⟨#[]⟩, .string ty, .slice A ys.length ys.length, .string ⟨#[]⟩, .int .i64 0] 26)) #[.int .i64 0, .int .i32 0, .string ⟨#[]⟩, .string ⟨#[]⟩, .string ⟨#[]⟩, .slice none 0 0, .string ⟨#[]⟩, .int .i64 0] 26
   simpa using this
 have HM0 := Lib.hid (Mv.below hb h)
 have HN := Lib.hid (nameR_any W0 W1 c s HM0.out.2)
 rw [hnme] at HN
 have HX1 := Lib.hid hx1
 have HX2 := Lib.hid hx2
 have HO := Lib.hid ho
 clear hx1 hx2 hb ho
 obtain ⟨s1, hs1⟩ : ∃ s1, s.name = s1 := ⟨_, rfl⟩
 rw [hs1] at HN hsee
 rw [hs1] at hq hen hwide hle hln
 have HA : Hid (∀ w', Rd W0 c s1 w' → Calls Tryz.prog 151 #[.pointer (some ⟨c, 0, none⟩)] w' (LsC W0 c w' q)) := by
   show ∀ w', _
   intro w' h'; have := IH W0 w' c _ hv h' hen; rw [hq] at this; exact this
 rw [hR]
 rw [hnme]
 clear hnme hs1 hR hn IH hv hq hen h
 go_enter Tryz.func119, Tryz.ntmps119
 go_wp2_with fail
 refine HN.out.mono ?_
 clear HN hW1
 rintro e w2 ⟨rfl, hm⟩
 have hs2 := hm.1.size
 have hs1' := HM0.out.1.size
 have hlW : w.heap.size + 1 < W1.heap.size := HX2.out.lt
 have hy1 : Bx w2 w.heap.size #[.int .i64 0, .int .i32 0, .string ⟨#[]⟩, .string ⟨#[]⟩, .string ty, .slice A ys.length ys.length, .string ⟨#[]⟩, .int .i64 0] 26 := Bx.grown HX1.out hm.1 (by omega)
 have hy2 := Lib.hid (Bx.grown HX2.out hm.1 (by omega))
 obtain ⟨W3, hW3⟩ : ∃ W3, (w2.setCell ⟨w.heap.size, 0, none⟩ (.int .i64 p)).setCell ⟨w.heap.size, 3, none⟩ (.string nm) = W3 := ⟨_, rfl⟩
 have hg3 : w2.grownBy W3 (some w.heap.size) := by rw [← hW3]; exact (grown_set_at _ _ _ _).trans (grown_set_at _ _ _ _)
 have hz1 : Bx W3 w.heap.size #[.int .i64 p, .int .i32 0, .string ⟨#[]⟩, .string nm, .string ty, .slice A ys.length ys.length, .string ⟨#[]⟩, .int .i64 0] 26 := by
   rw [← hW3]
   have := (hy1.set 0 (.int .i64 p)).set 3 (.string nm)
   simpa using this
 have hz2 := Lib.hid (Bx.grown hy2.out hg3 (by omega))
 have HM3 := Lib.hid (Mv.over (Below.refl _ _) (HM0.out.trans hm) hg3 (Nat.le_refl _) hlt)
 have HZ1 := Lib.hid hz1
 have HS := Lib.hid (sees_any W0 W3 c s1 sOpen HM3.out.2)
 rw [hsee] at HS
 obtain ⟨r0, r1, r2, r3, r4, r5, r6, r7⟩ := hy1.all_8
 have g0 := hy1.fro 0; have g3 := hy1.fro 3
 have hs23 := hg3.size
 clear hm hy1 hy2 hg3 hz1
 go_wp2_with fail
 refine HS.out.mono ?_
 clear HS hW3
 rintro e w3 ⟨rfl, rfl⟩
 have hs3 := HM3.out.1.size
 clear r0 r1 r2 r3 r4 r5 r6 r7 g0 g3
 obtain ⟨W4, hW4⟩ : ∃ W4, W3.setCell ⟨w.heap.size, 0, none⟩ (.int .i64 k) = W4 := ⟨_, rfl⟩
 have hg4 : W3.grownBy W4 (some w.heap.size) := by rw [← hW4]; exact grown_set_at _ _ _ _
 have hd1 : Bx W4 w.heap.size #[.int .i64 k, .int .i32 0, .string ⟨#[]⟩, .string nm, .string ty, .slice A ys.length ys.length, .string ⟨#[]⟩, .int .i64 0] 26 := by
   rw [← hW4]
   have := HZ1.out.set 0 (.int .i64 k)
   simpa using this
 have HD2 := Lib.hid (Bx.grown hz2.out hg4 (by omega))
 have HM4 := Lib.hid (Mv.over (Below.refl _ _) HM3.out hg4 (Nat.le_refl _) hlt)
 have HD1 := Lib.hid hd1
 obtain ⟨i0, hi, hz0, hzz1, hzz2⟩ := info_parts Tryz.infoEx
 obtain ⟨r0, r1, r2, r3, r4, r5, r6, r7⟩ := HZ1.out.all_8
 have g0 := HZ1.out.fro 0
 obtain ⟨d0, d1, d2, d3, d4, d5, d6, d7⟩ := HD1.out.all_8
 have hs4 := hg4.size
 have hsd : W4.drew.heap.size = W4.heap.size := rfl
 clear hg4 hd1
 go_wp2_with fail
 clear hW4 r0 r1 r2 r3 r4 r5 r6 r7 g0
 go_region_law (first
   | (refine step_append_full rfl (.tmp 19) (.tmp 21) 24 rfl 26 i0 _ 8 112 Tryz.underlying24 hi hz0 hzz1 hzz2 rfl (by decide) B A ys.length _ rfl HOY.out.1 W4.drew.heap.size _ _ _ rfl HO2.out.1 (ex_one HO2.out.2.1) HC1.out HC2.out HC3.out ?_; intro v3 w6 ho6 hg6 hat6; obtain ⟨A3, cap3, rfl, _⟩ := own_form ho6; have HO6 := Lib.hid ho6; have HG6 := Lib.hid hg6; have HAT6 := Lib.hid hat6; have f5 := (Bx.next HB15.out (below_none hg6)).fro 5; have c5 := (Bx.next HB15.out (below_none hg6)).all_8.2.2.2.2.2.1; clear ho6 hg6 hat6)
   | (go_simp; go_wp2_with (go_at_call 151; refine (HA.out _ HM4.out.2.drew).mono ?_; rintro e w5 ⟨v2, zs, rfl, ho2, hbz, hm⟩; have HO2 := Lib.hid ho2; obtain ⟨A2, cap2, rfl⟩ := ho2.form; have HBZ := Lib.hid hbz; have HM5 := Lib.hid hm; have HB15 := Lib.hid (Bx.grown (w := W4.drew) HD1.out hm.1 (Nat.ne_of_gt hlt)); have HB25 := Lib.hid (Bx.grown (w := W4.drew) HD2.out hm.1 (by omega)); have e5 := HB15.out.all_8.2.2.2.2.2.1; have HMT := Lib.hid ((HM4.out.trans (Mv.below ((Below.refl _ _).drew) HM4.out.2)).trans hm); have HOY := Lib.hid (HO.out.grown HMT.out.1 hcB); have HC1 := Lib.hid (us_c1 hl hbz hwide hfew hln); have HC2 := Lib.hid (us_c2 hl hbz hwide hfew hln); have HC3 := Lib.hid (Nat.le_trans hBw HMT.out.1.size); clear ho2 hbz hm)))
 all_goals
   obtain ⟨W7, hW7⟩ : ∃ W7, w6.setCell ⟨w.heap.size, 5, none⟩ (.slice A3 (ys.length + zs.length) cap3) = W7 := ⟨_, rfl⟩
   have hg7 : w6.grownBy W7 (some w.heap.size) := by rw [← hW7]; exact grown_set_at _ _ _ _
   have hq1 : Bx W7 w.heap.size #[.int .i64 k, .int .i32 0, .string ⟨#[]⟩, .string nm, .string ty, .slice A3 (ys.length + zs.length) cap3, .string ⟨#[]⟩, .int .i64 0] 26 := by
     rw [← hW7]
     have := (Bx.next HB15.out (below_none HG6.out)).set 5 (.slice A3 (ys.length + zs.length) cap3)
     simpa using this
   have hq2 := Lib.hid (Bx.grown (Bx.next HB25.out (below_none HG6.out)) hg7 (by omega))
   have HG7 := Lib.hid hg7
   obtain ⟨r0, r1, r2, r3, r4, r5, r6, r7⟩ := hq1.all_8
   have hx2 := hq2.out
   obtain ⟨a0, a1, a2, a3, a4, a5, a6, a7⟩ := hx2.all_8
   have g0 := hx2.fro 0; have g1 := hx2.fro 1; have g2 := hx2.fro 2; have g3 := hx2.fro 3; have g4 := hx2.fro 4; have g5 := hx2.fro 5; have g6 := hx2.fro 6; have g7 := hx2.fro 7
   have HG := Lib.hid (grown_8 W7 (w.heap.size + 1) (.int .i64 k) (.int .i32 0) (.string ⟨#[]⟩) (.string nm) (.string ty) (.slice A3 (ys.length + zs.length) cap3) (.string ⟨#[]⟩) (.int .i64 0))
   have hs5 : W4.heap.size ≤ w5.heap.size := HM5.out.1.size
   have hs6 := HG6.out.size
   clear hx2 hq1 hg7 c5 f5 e5 d0 d1 d2 d3 d4 d5 d6 d7
   go_wp2_with fail
   obtain ⟨z0, z1, z2, z3, z4, z5, z6, z7⟩ := (hq2.out.to_8 (.int .i64 k) (.int .i32 0) (.string ⟨#[]⟩) (.string nm) (.string ty) (.slice A3 (ys.length + zs.length) cap3) (.string ⟨#[]⟩) (.int .i64 0)).all_8
   (try simp only [Exit.inBlock, Exit.then])
   refine bodyPost_ret (v := .agg #[.int .i64 k, .int .i32 0, .string ⟨#[]⟩, .string nm, .string ty, .slice A3 (ys.length + zs.length) cap3, .string ⟨#[]⟩, .int .i64 0]) (by simp [results, Tryz.results119, go_sem, z0, z1, z2, z3, z4, z5, z6, z7]) rfl ?_
   have hmv := Mv.over (Below.refl _ _) (Mv.over (Below.refl _ _) (HMT.out.trans (Mv.below (below_none HG6.out) HMT.out.2)) HG7.out (Nat.le_refl _) hlt) HG.out (by omega) hlt
   have hown : ∀ b, b < W4.heap.size → w.heap.size ≤ b → (Value.slice A3 (ys.length + zs.length) cap3).ownBlock = none ∨ (Value.slice A3 (ys.length + zs.length) cap3).ownBlock ≠ some b := by
     intro b hb hb'
     refine .inr fun e => ?_
     rcases HAT6.out with e2 | ⟨k', e2, hk'⟩
     · rw [e] at e2; have := (HO.out.lt b e2.symm).2; omega
     · rw [e] at e2; injection e2 with e2; omega
   have hoe := OwnR.app2 HO.out HO2.out (by omega) (by have := len_of_bare HBZ.out; omega) (fun g hg => by have := (hro g hg).1; omega) ((HO6.out.kept HG7.out (hown _ (by omega) (Nat.le_refl _))).kept HG.out (hown _ (by omega) (by omega)))
     (fun k' j u hk hlt' hne hu => ⟨hmv.1.cell (a := ⟨k', j, none⟩) hu (by simp; omega), fun e => by
       rcases HAT6.out with e2 | ⟨k2, e2, hk2⟩
       · exact hne (e.trans e2)
       · rw [e2] at e; injection e with e; omega⟩)
     (fun k' j u hk hlt' hu => ⟨cell_past HG7.out HG.out (HG6.out.cell (a := ⟨k', j, none⟩) hu (by simp)) (by omega) (by omega), fun e => by
       rcases HAT6.out with e2 | ⟨k2, e2, hk2⟩
       · have := (HO.out.lt k' (e.trans e2).symm).2; omega
       · rw [e2] at e; injection e with e; omega⟩)
   have hlen : (ys ++ zs).length = ys.length + zs.length := List.length_append
   have hne7 : ∀ g, ro = some g → (Value.slice A3 (ys.length + zs.length) cap3).ownBlock ≠ some g := by
     intro g hg e
     have h7 := hro g hg
     rcases HAT6.out with e2 | ⟨k', e2, hk'⟩
     · rw [e] at e2; exact h7.2 e2.symm
     · rw [e] at e2; injection e2 with e2; omega
   exact ⟨.ex k 0 ⟨#[]⟩ nm ty (.slice A3 (ys.length + zs.length) cap3) (ys ++ zs) ⟨#[]⟩ 0, rfl, hoe.node hne7 k 0 ⟨#[]⟩ nm ty ⟨Nat.zero_le _, hnm, hty⟩ (mk_bare (by rw [bareL_append, bareL_append, hbr, HBZ.out]) _ _ _ _ _), hmv⟩
theorem used_of (n : Nat) (IH : SpecR n) : SpecU (n + 1) := by
 intro W0 w B ro c s p k ty v xs ys hv h hn ho hbr hcB hBw hfull hl hty hro
 obtain ⟨A, rfl⟩ := hfull
 cases hsee : s.name.sees 0 sOpen with
 | false => exact used_no n IH W0 w B ro c s p k ty A xs ys hv h hn ho hbr hcB hBw hl hty hro hsee
 | true => exact used_yes n IH W0 w B ro c s p k ty A xs ys hv h hn ho hbr hcB hBw hl hty hro hsee
end
section
open Go.RowKit
def kIf : ByteArray := ⟨#[105, 102]⟩
def kWhile : ByteArray := ⟨#[119, 104, 105, 108, 101]⟩
def kReturn : ByteArray := ⟨#[114, 101, 116, 117, 114, 110]⟩
def kPrint : ByteArray := ⟨#[112, 114, 105, 110, 116]⟩
def kAssert : ByteArray := ⟨#[97, 115, 115, 101, 114, 116]⟩
def kThrow : ByteArray := ⟨#[116, 104, 114, 111, 119]⟩
def kTry : ByteArray := ⟨#[116, 114, 121]⟩
def kElse : ByteArray := ⟨#[101, 108, 115, 101]⟩
def kCatch : ByteArray := ⟨#[99, 97, 116, 99, 104]⟩
def kFinally : ByteArray := ⟨#[102, 105, 110, 97, 108, 108, 121]⟩
def sEq : ByteArray := ⟨#[61]⟩
def sSemi : ByteArray := ⟨#[59]⟩
def sBra : ByteArray := ⟨#[123]⟩
def sKet : ByteArray := ⟨#[125]⟩
def mkS (k n : Int) (ty nm : ByteArray) (e a b c : List Nd) : Nd := .st k n ty nm (.slice none 0 0) (.slice none 0 0) (.slice none 0 0) (.slice none 0 0) e a b c 0
def ex (s : RS) : List Nd × RS := run (14 * s.len + 9) .expr s
def ar (s : RS) : List Nd × RS := run (14 * s.len + 12) .args s
def finE (s : RS) : List Nd × RS := ([hdE (ex s).1], (ex s).2.need sSemi)
def valE (s : RS) : List Nd × RS := finE (s.need sEq)
def cond (s : RS) : List Nd × RS := ([hdE (ex (s.need sOpen)).1], (ex (s.need sOpen)).2.need sShut)
abbrev Rb := RS → List Nd × RS
def choS (b : Rb) (s : RS) : Nd × RS :=
 if (b (cond s).2).2.sees 0 kElse = true then (mkS 4 0 E0 E0 (cond s).1 (b (cond s).2).1 (b (b (cond s).2).2.skip).1 [], (b (b (cond s).2).2.skip).2)
 else (mkS 4 0 E0 E0 (cond s).1 (b (cond s).2).1 [] [], (b (cond s).2).2)
def whlS (b : Rb) (s : RS) : Nd × RS := (mkS 5 0 E0 E0 (cond s).1 (b (cond s).2).1 [] [], (b (cond s).2).2)
def resS (s : RS) : Nd × RS := if s.sees 0 sSemi = true then (mkS 6 0 E0 E0 [] [] [] [], s.skip) else (mkS 6 0 E0 E0 (finE s).1 [] [] [], (finE s).2)
def at1 (b : Rb) (s : RS) : RS := ((b s).2.need kCatch).need sOpen
def at2 (b : Rb) (s : RS) : RS := (at1 b s).class
def at3 (b : Rb) (s : RS) : RS := (at2 b s).name.need sShut
def attS (b : Rb) (s : RS) : Nd × RS :=
 if (b (at3 b s)).2.sees 0 kFinally = true then (mkS 10 0 (at1 b s).classV (at2 b s).nameV [] (b s).1 (b (at3 b s)).1 (b (b (at3 b s)).2.skip).1, (b (b (at3 b s)).2.skip).2)
 else (mkS 10 0 (at1 b s).classV (at2 b s).nameV [] (b s).1 (b (at3 b s)).1 [], (b (at3 b s)).2)
def supS (s : RS) : Nd × RS := (mkS 11 0 E0 E0 (ar s.skip).1 [] [] [], (ar s.skip).2.need sSemi)
def plaS (s : RS) : Nd × RS :=
 if (ex s).2.sees 0 sEq = true then (mkS 2 0 E0 E0 (hdE (ex s).1 :: (finE (ex s).2.skip).1) [] [] [], (finE (ex s).2.skip).2)
 else (mkS 3 0 E0 E0 [hdE (ex s).1] [] [] [], (ex s).2.need sSemi)
def varS (s : RS) : Nd × RS := (mkS 1 0 s.typV s.typ.nameV (valE s.typ.name).1 [] [] [], (valE s.typ.name).2)
def RS.varB (s : RS) : Bool := s.sees 0 tInt || s.sees 0 tBool || s.sees 0 tStr || ((clP s.ws[0]?).isSome && (nmP s.ws[1]?).isSome)
def stS (b : Rb) (s : RS) : Nd × RS :=
 if s.varB = true then varS s
 else if s.sees 0 kIf = true then choS b s.skip
 else if s.sees 0 kWhile = true then whlS b s.skip
 else if s.sees 0 kReturn = true then resS s.skip
 else if s.sees 0 kPrint = true then (mkS 7 0 E0 E0 (finE s.skip).1 [] [] [], (finE s.skip).2)
 else if s.sees 0 kAssert = true then (mkS 8 (s.skip.numR 9999) E0 E0 (finE (s.skip.num 9999)).1 [] [] [], (finE (s.skip.num 9999)).2)
 else if s.sees 0 kThrow = true then (mkS 9 0 E0 E0 (finE s.skip).1 [] [] [], (finE s.skip).2)
 else if s.sees 0 kTry = true then attS b s.skip
 else if s.sees 0 sSuper = true then (if s.sees 1 sOpen = true then supS s else plaS s)
 else plaS s
def kindN : Nd → Int
 | .ex k _ _ _ _ _ _ _ _ => k
 | _ => 0
def leftK (k : Int) : Bool := k == 6 || k == 7 || k == 8 || k == 9
def doesK (k : Int) : Bool := k == 10 || k == 11 || k == 12 || k == 13 || k == 14
def fitsS (x : Nd) (first : Bool) : Bool := match x with
 | .st k _ _ _ _ _ _ _ e _ _ _ _ => if k = 11 then first else if k = 2 then leftK (kindN (hdE e)) else if k = 3 then doesK (kindN (hdE e)) else true
 | _ => true
def RS.lateN (s : RS) (a : Int) : RS := if s.lc = 0 then { s with lc := 3, la := a } else s
inductive Ms where
 | body (c : Bool) | loop (c : Bool) (l : List Nd)
def runS : Nat → Ms → RS → List Nd × RS
 | 0, _, s => ([], s)
 | n + 1, .body c, s => ((runS n (.loop c []) (s.enter sBra)).1, (runS n (.loop c []) (s.enter sBra)).2.leave sKet)
 | n + 1, .loop c l, s =>
   if s.until sKet = true then
     let r := stS (runS n (.body false)) s
     runS n (.loop c (l ++ [r.1])) (if fitsS r.1 (c && l.isEmpty) = true then r.2 else r.2.lateN s.at)
   else (l, s)
def Ms.rank : Ms → Nat
 | .body _ => 3 | .loop .. => 2
section
variable {b : Rb} (hb : ∀ s, (b s).2.len ≤ s.len - 1)
include hb
end
def bd (c : Bool) (s : RS) : List Nd × RS := runS (4 * s.len + 3) (.body c) s
end
section
open Go.RowKit
def NF (t : Tg) (y : Nd) : Prop := y.tag = t ∧ ∀ u ∈ cellsN y, u.oneCell' = true
def OwnT (t : Tg) (T : TypeId) (B : Nat) (r : Option Nat) (w : World) (v : Value) (ys : List Nd) : Prop :=
 w.ownsRow B T t.sz v ys.length (ys.flatMap cellsN) ∧ (∀ y ∈ ys, NF t y) ∧ KR B v.ownBlock r w ys ∧ ys.length ≤ 2000000
section
variable {t : Tg} {T : TypeId} {B : Nat} {r : Option Nat} {w w' : World} {v : Value} {ys : List Nd}
end
section
variable {B : Nat} {r : Option Nat} {w w' : World} {t : Tg} {v : Value} {l : List Nd}
end
def ExAny : Prop := ∀ (W0 w : World) (c : Nat) (s : RS), Vars W0 → Rd W0 c s w → Calls Tryz.prog 14 #[.pointer (some ⟨c, 0, none⟩)] w (ExC W0 c w (ex s))
end
end Go.Proofs.YtaclhdpjkgoadaaGreatDoor
