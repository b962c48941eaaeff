/- Parts of the proof: Laid, LaidW, Join, ExZ. -/
import Derived.Test.YtaclhdpjkgoadaaGreatDoorRows
import Derived.Test.YtaclhdpjkgoadaaGreatDoorP9
import Derived.ChangeSame
import Derived.ChangeVars
import Derived.JoinedOf
import Derived.RowKit
import Derived.RowKitTokens
import Derived.LaidLaws
import Derived.LaidHandle
import Derived.Stop.Joined
import Derived.Test.YtaclhdpjkgoadaaGreatDoorP17
import Derived.Test.YtaclhdpjkgoadaaGreatDoorP22
import Derived.Deep.RegionWith
import Derived.Test.YtaclhdpjkgoadaaGreatDoorP27
set_option maxHeartbeats 8000000
set_option maxRecDepth 100000
namespace Go.Proofs.YtaclhdpjkgoadaaGreatDoor
section
open Go.ChangeShapes Go.WideShapes Go.RowKit
abbrev laidL : List (String × DataW Unit) := [("math/bits.deBruijn32tab", Rows.laid_math_bits_deBruijn32tab), ("math/bits.deBruijn64tab", Rows.laid_math_bits_deBruijn64tab), ("internal/strconv.uint64pow10", Rows.laid_internal_strconv_uint64pow10), ("strconv.ErrRange", Rows.laid_strconv_ErrRange), ("strconv.ErrSyntax", Rows.laid_strconv_ErrSyntax)]
theorem g_syn : Tryz.prog.globalNamed "strconv.ErrSyntax" = some 2 := by kernel_rfl
theorem g_ran : Tryz.prog.globalNamed "strconv.ErrRange" = some 3 := by kernel_rfl
theorem g_synT : (Tryz.prog.globals[(2 : Nat)]?).map (·.type) = some 87 := by kernel_rfl
theorem g_ranT : (Tryz.prog.globals[(3 : Nat)]?).map (·.type) = some 87 := by kernel_rfl
theorem vars_of_laid {W : World} (h : laidMetH Tryz.prog laidL W) : Vars W := by
 have h' : laidMet Tryz.prog laidL W := h
 obtain ⟨ps, ⟨g0, t0, cs0, f0, p0, q0, hg0, ht0, hv0, hd0, ⟨g1, t1, cs1, f1, p1, q1, hg1, ht1, hv1, hd1, ⟨g2, t2, cs2, f2, p2, q2, hg2, ht2, hv2, hd2, ⟨g3, t3, cs3, f3, p3, q3, hg3, ht3, hv3, hd3, ⟨g4, t4, cs4, f4, p4, q4, hg4, ht4, hv4, hd4, hq4, e4⟩, e3⟩, e2⟩, e1⟩, e0⟩, hnd, hrows⟩ := h'
 obtain rfl := Option.some.inj (g_ran.symm.trans hg3)
 obtain rfl := Option.some.inj (g_syn.symm.trans hg4)
 obtain rfl := Option.some.inj (g_ranT.symm.trans ht3)
 obtain rfl := Option.some.inj (g_synT.symm.trans ht4)
 obtain ⟨l3⟩ := cs3
 obtain ⟨l4⟩ := cs4
 obtain ⟨_, u3, v3, rfl, _, _⟩ := iface_of_trod Tryz.underlying87 hd3
 obtain ⟨_, u4, v4, rfl, _, _⟩ := iface_of_trod Tryz.underlying87 hd4
 exact ⟨⟨_, by simpa using World.var?_cell g_syn hv4 0, .inr ⟨_, _, rfl⟩⟩, _, by simpa using World.var?_cell g_ran hv3 0, .inr ⟨_, _, rfl⟩⟩
end
set_option linter.unusedSimpArgs false
set_option linter.unusedVariables false
section
open Go.ChangeShapes Go.WideShapes Go.RowKit
theorem ownK : ownKnob Tryz.prog.godebug = none := by kernel_rfl
abbrev ranS : ByteArray := { data := #[118, 97, 108, 117, 101, 32, 111, 117, 116, 32, 111, 102, 32, 114, 97, 110, 103, 101] }
abbrev synS : ByteArray := { data := #[105, 110, 118, 97, 108, 105, 100, 32, 115, 121, 110, 116, 97, 120] }
def litV : DataW Unit → Value
 | .lit (.int k n) => .int k n
 | _ => .int .i64 0
def aggV : DataW Unit → Array Value
 | .agg l => (l.map litV).toArray
 | _ => #[]
noncomputable def lowB : Nat := (World.holding Tryz.prog default ⟨#[], #[], []⟩).heap.size
def putC (cs : Array Value) : Obj → Obj
 | .cells _ t frozen => .cells cs t frozen
 | o => o
noncomputable def laidWorld (os : Os) : World :=
 let w0 := World.holding Tryz.prog os ⟨#[.cells #[.string ranS] 259, .cells #[.string synS] 259], #[], []⟩
 { w0 with heap := ((((w0.heap.modify 4 (putC (aggV Rows.laid_math_bits_deBruijn32tab))).modify 5 (putC (aggV Rows.laid_math_bits_deBruijn64tab))).modify 1 (putC (aggV Rows.laid_internal_strconv_uint64pow10))).modify 3 (putC #[.iface 257 (.pointer (some ⟨lowB, 0, none⟩))])).modify 2 (putC #[.iface 257 (.pointer (some ⟨lowB + 1, 0, none⟩))]) }
theorem laidWorld_met (os : Os) (args : Array Value) : laidMetH Tryz.prog laidL ((laidWorld os).forCall (fun _ _ => 0) ⟨#[], args, []⟩).memory := by
 show laidMet Tryz.prog laidL _
 exact laidMet_of_run' 8 (by kernel_rfl) (by kernel_rfl)
end
section
open Go.RowKit
theorem as_fx (l : List Pl) (k : Nat) : ∀ w, (Instr.typeAssert (aheadV l k) 71 103 true).run Tryz.prog w = .ok (.tuple #[.string ((fxP l[k]?).getD ⟨#[]⟩), .bool (fxP l[k]?).isSome]) w := by
 cases hx : l[k]? with
 | none => exact fun w => by simp only [aheadV, hx, fxP]; exact is_no_fx w
 | some x =>
   obtain ⟨q, a⟩ := x
   cases q with
   | fx t => exact fun w => by simp only [aheadV, hx, fxP, Pr.V]; exact is_fx_fx _ w
   | nm t => exact fun w => by simp only [aheadV, hx, fxP, Pr.V]; exact is_nm_fx _ w
   | cl t => exact fun w => by simp only [aheadV, hx, fxP, Pr.V]; exact is_cl_fx _ w
   | nu t => exact fun w => by simp only [aheadV, hx, fxP, Pr.V]; exact is_nu_fx _ w
   | qu t => exact fun w => by simp only [aheadV, hx, fxP, Pr.V]; exact is_qu_fx _ w
theorem tight_le (t : ByteArray) : 0 ≤ tight t ∧ tight t ≤ 6 := by
 unfold tight tightL
 repeat' split
 all_goals simp
theorem fx_get {l : List Pl} {t : ByteArray} (h : fxP l[0]? = some t) : ∃ a, l[0]? = some (.fx t, a) := by
 unfold fxP at h
 split at h
 · rename_i a e; injection h with h; exact ⟨a, by rw [e, h]⟩
 · cases h
theorem ExK.past {B C g : Nat} {w : World} {x y : Nd} (h : ExK B none w x y) (hg : g < B) (hC : C ≤ B) : ExK C (some g) w x y := by
 obtain ⟨k, n, tx, nm, ty, A, cap, l, e, hs, hf, hb⟩ := h
 exact ⟨k, n, tx, nm, ty, A, cap, l, e, hs, fun ws hk => hf ws fun k j u hB _ hu => hk k j u (Nat.le_trans hC hB) (by simp; omega) hu, hb⟩
theorem OwnR.two {B : Nat} {r : Option Nat} {W : World} {x y x' y' : Nd} (h : ExK B r W x y) (h' : ExK B r W x' y') (hB : B ≤ W.heap.size) : OwnR B r (W.alloc (.cells (cellsN y ++ cellsN y').toArray 26)) (.slice (some ⟨W.heap.size, 0, none⟩) 2 2) [y, y'] := by
 obtain ⟨hex, hk⟩ := h.kd
 obtain ⟨hex', hk'⟩ := h'.kd
 have hl := World.ownsRow_lit (base := B) (e := 26) (size := 8) W (cellsN y ++ cellsN y').toArray 2 hB (by unfold maxLen; omega) (by simp [cells_len, hex.tag, hex'.tag, Tg.sz])
 have key : ∀ ws : World, (∀ k j u, B ≤ k → some k ≠ (Value.slice (some ⟨W.heap.size, 0, none⟩) 2 2).ownBlock → some k ≠ r → (W.alloc (.cells (cellsN y ++ cellsN y').toArray 26)).cell? ⟨k, j, none⟩ = some u → ws.cell? ⟨k, j, none⟩ = some u) → ∀ k j u, B ≤ k → some k ≠ r → W.cell? ⟨k, j, none⟩ = some u → ws.cell? ⟨k, j, none⟩ = some u := by
   intro ws hs k j u hB' hr hu
   have hlt := World.block_lt_of_cell? W (a := ⟨k, j, none⟩) hu
   exact hs k j u hB' (by simp only [Value.ownBlock] at hlt ⊢; simp; omega) hr (Keep.below ((Below.refl _ W).alloc (Nat.le_refl _) _) _ _ hu)
 exact ⟨by simpa using hl, by simpa using ⟨hex, hex'⟩, fun ws hs => ⟨hk ws (key ws hs), hk' ws (key ws hs), trivial⟩, by simp⟩
theorem joined_of (n : Nat) (IHS : SpecS n) (IHJ : ∀ m, m ≤ n → SpecJ m) : SpecJ (n + 1) := by
 intro W0 w c s kk hv h hk1 hk7 hn
 obtain ⟨r, hr⟩ : ∃ r, run n .signed s = r := ⟨_, rfl⟩
 obtain ⟨RR, hRR⟩ : ∃ RR, run n (.loopJ kk (hdE r.1)) r.2 = RR := ⟨_, rfl⟩
 have hR : run (n + 1) (.joined kk) s = RR := by simp only [run, hr, hRR]
 have hen : enough n .signed s := by simp only [enough, Md.rank] at hn ⊢; omega
 have hl1 : r.2.len ≤ s.len := by have := run_len n .signed s; rw [hr] at this; exact this
 have hen2 : enough n (.loopJ kk (hdE r.1)) r.2 := by simp only [enough, Md.rank] at hn ⊢; omega
 have hlt := h.lt
 have hle0 := h.le
 obtain ⟨W1, hW1⟩ : ∃ W1, w.alloc (.cells #[.int .i64 0, .int .i32 0, .string ⟨#[]⟩, .string ⟨#[]⟩, .string ⟨#[]⟩, .slice none 0 0, .string ⟨#[]⟩, .int .i64 0] 26) = W1 := ⟨_, rfl⟩
 have hb : Below w.heap.size w W1 := by rw [← hW1]; exact (Below.refl _ w).alloc (Nat.le_refl _) _
 have hx : Bx W1 w.heap.size #[.int .i64 0, .int .i32 0, .string ⟨#[]⟩, .string ⟨#[]⟩, .string ⟨#[]⟩, .slice none 0 0, .string ⟨#[]⟩, .int .i64 0] 26 := by rw [← hW1]; exact Bx.new _ _ _
 have hz : W1.heap.size = w.heap.size + 1 := by rw [← hW1]; simp
 have HM0 := Lib.hid (Mv.below hb h)
 have HX0 := Lib.hid hx
 clear hb hx
 have HX := Lib.hid (IHS W0 W1 c s hv HM0.out.2 hen)
 rw [hr] at HX
 rw [hR]
 have HRR := Lib.hid hRR
 have HEN := Lib.hid hen2
 have HIH := Lib.hid IHJ
 have HV := Lib.hid hv
 clear hR hRR hr hen hen2 hn h IHS IHJ hl1 hv
 go_enter Tryz.func28, Tryz.ntmps28
 go_wp2_with fail
 refine HX.out.mono ?_
 clear HX hW1
 rintro e w2 ⟨y, rfl, hk, hm⟩
 have hs2 := hm.1.size
 have HK := Lib.hid hk
 obtain ⟨k, m, tx, nm, ty, A, cap, l, rfl, _, _, _⟩ := hk
 have HF := Lib.hid (show FolAt W0 w c w2.heap.size r.2 (hdE r.1) k m tx nm ty A cap l (w2.alloc (.cells #[.int .i64 k, .int .i32 m, .string tx, .string nm, .string ty, .slice A l.length cap, .string ⟨#[]⟩, .int .i64 0] 26)) from
   ⟨(HM0.out.trans hm).trans (Mv.below ((Below.refl _ _).alloc (Nat.le_refl _) _) hm.2), Bx.new _ _ _, (Bx.grown HX0.out hm.1 (by omega)).next ((Below.refl _ _).alloc (Nat.le_refl _) _), (ExK.excl HK.out ((Below.refl _ _).alloc (Nat.le_refl _) _) (Nat.le_refl _)).mono (by omega), by omega, hlt, hle0⟩)
 clear hm HK HM0 HX0
 simp only [cellsN]
 go_wp2_with fail
 go_loopw [8] (fun v8 wr => ∃ (m : Nat) (x : Nd) (s' : RS) (k n' : Int) (tx nm ty : ByteArray) (A : Option Addr) (cap : Nat) (l : List Nd), m ≤ n ∧ run m (.loopJ kk x) s' = RR ∧ enough m (.loopJ kk x) s' ∧ FolAt W0 w c w2.heap.size s' x k n' tx nm ty A cap l wr) (fun v8 wr => lenAt wr c)
 case atStart => exact ⟨n, _, _, k, m, tx, nm, ty, A, cap, l, Nat.le_refl _, HRR.out, HEN.out, HF.out⟩
 case round =>
   obtain ⟨m, x, s', k, n', tx, nm, ty, A, cap, l, hmn, hrun, hen, hf⟩ := hrel
   obtain ⟨m, rfl⟩ : ∃ m', m = m' + 1 := ⟨m - 1, by simp only [enough, Md.rank] at hen; omega⟩
   have hla := lenAt_of hf.1.2
   have HF1 := Lib.hid hf
   have hb2 := hf.2.2.2.2.1
   have hlt2 : w2.heap.size < wr.heap.size := hf.2.1.lt
   have hasf := as_fx s'.ws 0
   have HA := Lib.hid (ahead_any W0 wr c 0 s' hf.1.2 (by omega))
   obtain ⟨u0, hu0⟩ : ∃ u, aheadV s'.ws 0 = u := ⟨_, rfl⟩
   rw [hu0] at hasf HA
   clear hu0
   cases h0 : fxP s'.ws[0]? with
   | none =>
     rw [h0] at hasf
     simp only [Option.getD_none, Option.isSome_none] at hasf
     have hR : run (m + 1) (.loopJ kk x) s' = ([x], s') := by simp only [run, h0]
     rw [hR] at hrun
     subst hrun
     have HF3 := HF1
     have HT := Lib.hid (tight_any wr ⟨#[]⟩)
     have ht0 : tight ⟨#[]⟩ = 0 := by decide +kernel
     rw [ht0] at HT
     clear hR hen hf h0 ht0
     go_wp2_with fail
     refine HA.out.mono ?_
     clear HA
     rintro e w3 ⟨rfl, rfl⟩
     go_wp2_with fail
     refine HT.out.mono ?_
     clear HT
     rintro e w3 ⟨rfl, rfl⟩
     have hx2 := HF3.out.2.2.1
     obtain ⟨r0, r1, r2, r3, r4, r5, r6, r7⟩ := hx2.all_8
     have g0 := hx2.fro 0; have g1 := hx2.fro 1; have g2 := hx2.fro 2; have g3 := hx2.fro 3; have g4 := hx2.fro 4; have g5 := hx2.fro 5; have g6 := hx2.fro 6; have g7 := hx2.fro 7
     obtain ⟨a0, a1, a2, a3, a4, a5, a6, a7⟩ := HF3.out.2.1.all_8
     have HG := Lib.hid (grown_8 wr w.heap.size (.int .i64 k) (.int .i32 n') (.string tx) (.string nm) (.string ty) (.slice A l.length cap) (.string ⟨#[]⟩) (.int .i64 0))
     clear hx2
     go_wp2_with fail
     obtain ⟨z0, z1, z2, z3, z4, z5, z6, z7⟩ := (HF3.out.2.2.1.to_8 (.int .i64 k) (.int .i32 n') (.string tx) (.string nm) (.string ty) (.slice A l.length cap) (.string ⟨#[]⟩) (.int .i64 0)).all_8
     (try simp only [Exit.inBlock, Exit.then])
     refine bodyPost_ret (v := .agg #[.int .i64 k, .int .i32 n', .string tx, .string nm, .string ty, .slice A l.length cap, .string ⟨#[]⟩, .int .i64 0]) (by simp [results, Tryz.results28, go_sem, z0, z1, z2, z3, z4, z5, z6, z7]) rfl ?_
     exact ⟨_, rfl, (HF3.out.2.2.2.1.free.grown HG.out (.inl (by omega))).mono (by omega), Mv.over (Below.refl _ _) HF3.out.1 HG.out (Nat.le_refl _) hlt⟩
   | some t =>
     rw [h0] at hasf
     simp only [Option.getD_some, Option.isSome_some] at hasf
     obtain ⟨tt, htt⟩ : ∃ tt, tight t = tt := ⟨_, rfl⟩
     have htl := tight_le t
     have HT := Lib.hid (tight_any wr t)
     rw [htt] at htl HT
     obtain ⟨htl0, htl6⟩ := htl
     by_cases hkt : kk ≤ tt
     · obtain ⟨q, hq⟩ : ∃ q, run m (.joined (tt + 1)) s'.skip = q := ⟨_, rfl⟩
       have hR : run (m + 1) (.loopJ kk x) s' = run m (.loopJ kk (mkE 17 0 E0 t E0 [x, hdE q.1])) q.2 := by simp only [run, h0, htt, if_pos hkt, hq]
       rw [hR] at hrun
       obtain ⟨ta, hg0⟩ := fx_get h0
       have htx : t.size ≤ maxLen := hf.1.2.text hg0
       have hne := ne_of_get hg0
       have h1 : 1 ≤ s'.len := by
         cases hw : s'.ws with
         | nil => exact absurd hw hne
         | cons x l => simp [RS.len, hw]
       have h2 := len_skip s'
       have h3 : q.2.len ≤ s'.skip.len := by have := run_len m (.joined (tt + 1)) s'.skip; rw [hq] at this; exact this
       have hE : enough m (.joined (tt + 1)) s'.skip := by simp only [enough, Md.rank] at hen ⊢; omega
       have hen2 : enough m (.loopJ kk (mkE 17 0 E0 t E0 [x, hdE q.1])) q.2 := by simp only [enough, Md.rank] at hen ⊢; omega
       have HRUN := Lib.hid hrun
       have HEN2 := Lib.hid hen2
       have HSK := Lib.hid (skip_any W0 wr c s' hf.1.2 hne)
       have HX : Hid (∀ w', FolAt W0 w c w2.heap.size s'.skip x k n' tx nm ty A cap l w' → Calls Tryz.prog 28 #[.pointer (some ⟨c, 0, none⟩), .int .i64 (tt + 1)] w' (ExC W0 c w' q)) := by
         show ∀ w', _
         intro w' h'; have := HIH.out m (by omega) W0 w' c s'.skip (tt + 1) HV.out h'.1.2 (by omega) (by omega) hE; rw [hq] at this; exact this
       have hlt' : ¬ tt < kk := by omega
       have hwr0 : wrap64 (tt + 1) = tt + 1 := by unfold wrap64; omega
       have hwr : IntKind.i64.wrap (tt + 1) = tt + 1 := by rw [IntKind.wrap_i64]; omega
       clear hR hrun hen hE hen2 hq hf h0 hg0 htt hne
       go_wp2_with fail
       refine HA.out.mono ?_
       clear HA
       rintro e w3 ⟨rfl, rfl⟩
       go_wp2_with fail
       refine HT.out.mono ?_
       clear HT
       rintro e w3 ⟨rfl, rfl⟩
       go_wp2_with fail
       refine HSK.out.mono ?_
       clear HSK hasf
       rintro e w3 ⟨rfl, hm⟩
       have HF2 := Lib.hid (HF1.out.move hm)
       have HFD : Hid (FolAt W0 w c w2.heap.size s'.skip x k n' tx nm ty A cap l w3.drew) := Lib.hid (HF2.out.below (Below.refl _ _).drew)
       obtain ⟨a0, a1, a2, a3, a4, a5, a6, a7⟩ := HF2.out.2.1.all_8
       have hlt3 : w2.heap.size < w3.drew.heap.size := HFD.out.2.1.lt
       clear hm
       go_wp2_with fail
       go_region_law (go_simp; go_wp2_with (go_at_call 28; refine (HX.out _ HFD.out).mono ?_; rintro e w4 ⟨z, rfl, hk, hm⟩; have HF4 := Lib.hid (HFD.out.move hm); have HZ := Lib.hid (hk.past (show w2.heap.size < _ from hlt3) (show w.heap.size + 1 ≤ _ by omega)); have hbz := Lib.hid hk.bare; obtain ⟨zk, zn, ztx, znm, zty, zA, zc, zl, rfl, _, _, _⟩ := hk; obtain ⟨b0, b1, b3, b4, b5, b6, b7, b8⟩ := HF4.out.2.1.all_8; obtain ⟨W5, hW5⟩ : ∃ W5, w4.alloc (.cells #[.int .i64 k, .int .i32 n', .string tx, .string nm, .string ty, .slice A l.length cap, .string ⟨#[]⟩, .int .i64 0, .int .i64 zk, .int .i32 zn, .string ztx, .string znm, .string zty, .slice zA zl.length zc, .string ⟨#[]⟩, .int .i64 0] 26) = W5 := ⟨_, rfl⟩; have hb5 : Below w4.heap.size w4 W5 := by { rw [← hW5]; exact (Below.refl _ _).alloc (Nat.le_refl _) _ }; have HF5 := Lib.hid (HF4.out.below hb5); have HO5 := Lib.hid (OwnR.two HF4.out.2.2.2.1 HZ.out (by have := HF4.out.2.1.lt; omega)); simp only [cellsN, List.cons_append, List.nil_append] at HO5; rw [hW5] at HO5; obtain ⟨r0, r1, r2, r3, r4, r5, r6, r7⟩ := HF5.out.2.1.all_8; have g0 := HF5.out.2.1.fro 0; have g1 := HF5.out.2.1.fro 1; have g2 := HF5.out.2.1.fro 2; have g3 := HF5.out.2.1.fro 3; have g4 := HF5.out.2.1.fro 4; have g5 := HF5.out.2.1.fro 5; have g6 := HF5.out.2.1.fro 6; have g7 := HF5.out.2.1.fro 7; have hlt4 := HF4.out.2.1.lt; clear hm hb5; simp only [cellsN]))
       all_goals
         have HK6 : Hid (bareN (mkE 17 0 E0 t E0 [x, hdE q.1]) = .ex 17 0 ⟨#[]⟩ t ⟨#[]⟩ (.slice none 0 0) (bareL [Nd.ex k n' tx nm ty (.slice A l.length cap) l ⟨#[]⟩ 0, Nd.ex zk zn ztx znm zty (.slice zA zl.length zc) zl ⟨#[]⟩ 0]) ⟨#[]⟩ 0) := Lib.hid (mk_bare (by simp only [bareL]; rw [HF2.out.2.2.2.1.bare, hbz.out]) _ _ _ _ _)
         have hn4 : ∀ g, some w2.heap.size = some g → (Value.slice (some ⟨w4.heap.size, 0, none⟩) 2 2).ownBlock ≠ some g := by intro g hg; injection hg with hg; subst hg; simp only [Value.ownBlock, ne_eq, Option.some.injEq]; omega
         have hszz : (⟨#[]⟩ : ByteArray).size ≤ maxLen ∧ t.size ≤ maxLen ∧ (⟨#[]⟩ : ByteArray).size ≤ maxLen := ⟨Nat.zero_le _, htx, Nat.zero_le _⟩
         have hmn' : m ≤ n := by omega
         clear a0 a1 a2 a3 a4 a5 a6 a7
         go_wp2_with fail
         have hk6 := HO5.out.node hn4 17 0 ⟨#[]⟩ t ⟨#[]⟩ hszz HK6.out
         have HF6 := Lib.hid (HF5.out.put (l := [_, _]) hk6)
         go_roundw
         case rel => exact ⟨m, _, _, _, _, _, _, _, _, _, _, hmn', HRUN.out, HEN2.out, HF6.out⟩
         case measure => (refine Nat.lt_of_le_of_lt (Nat.le_of_eq (lenAt_of HF6.out.1.2)) ?_; rw [hla]; omega)
     · have hR : run (m + 1) (.loopJ kk x) s' = ([x], s') := by simp only [run, h0, htt, if_neg hkt]
       rw [hR] at hrun
       subst hrun
       have HF3 := HF1
       have hlt' : tt < kk := by omega
       clear hR hen hf h0
       go_wp2_with fail
       refine HA.out.mono ?_
       clear HA
       rintro e w3 ⟨rfl, rfl⟩
       go_wp2_with fail
       refine HT.out.mono ?_
       clear HT
       rintro e w3 ⟨rfl, rfl⟩
       have hx2 := HF3.out.2.2.1
       obtain ⟨r0, r1, r2, r3, r4, r5, r6, r7⟩ := hx2.all_8
       have g0 := hx2.fro 0; have g1 := hx2.fro 1; have g2 := hx2.fro 2; have g3 := hx2.fro 3; have g4 := hx2.fro 4; have g5 := hx2.fro 5; have g6 := hx2.fro 6; have g7 := hx2.fro 7
       obtain ⟨a0, a1, a2, a3, a4, a5, a6, a7⟩ := HF3.out.2.1.all_8
       have HG := Lib.hid (grown_8 wr w.heap.size (.int .i64 k) (.int .i32 n') (.string tx) (.string nm) (.string ty) (.slice A l.length cap) (.string ⟨#[]⟩) (.int .i64 0))
       clear hx2
       go_wp2_with fail
       obtain ⟨z0, z1, z2, z3, z4, z5, z6, z7⟩ := (HF3.out.2.2.1.to_8 (.int .i64 k) (.int .i32 n') (.string tx) (.string nm) (.string ty) (.slice A l.length cap) (.string ⟨#[]⟩) (.int .i64 0)).all_8
       (try simp only [Exit.inBlock, Exit.then])
       refine bodyPost_ret (v := .agg #[.int .i64 k, .int .i32 n', .string tx, .string nm, .string ty, .slice A l.length cap, .string ⟨#[]⟩, .int .i64 0]) (by simp [results, Tryz.results28, go_sem, z0, z1, z2, z3, z4, z5, z6, z7]) rfl ?_
       exact ⟨_, rfl, (HF3.out.2.2.2.1.free.grown HG.out (.inl (by omega))).mono (by omega), Mv.over (Below.refl _ _) HF3.out.1 HG.out (Nat.le_refl _) hlt⟩
end
section
open Go.RowKit
theorem signed_of (n : Nat) (IHS : SpecS n) (IHF : SpecF n) : SpecS (n + 1) := by
 intro W0 w c s hv h hn
 cases h0 : s.sees 0 sMinus with
 | true => exact signed_0 n IHS W0 w c s hv h hn h0
 | false =>
   cases h1 : s.sees 0 sNot with
   | true => exact signed_1 n IHS W0 w c s hv h hn h0 h1
   | false =>
     cases h2 : s.sees 0 sLen with
     | true => exact signed_2 n IHS W0 w c s hv h hn h0 h1 h2
     | false => exact signed_3 n IHF W0 w c s hv h hn h0 h1 h2
structure AllSp (n : Nat) : Prop where
 e : SpecE n
 j : SpecJ n
 s : SpecS n
 f : SpecF n
 a : SpecA n
 x : SpecX n
 u : SpecU n
 r : SpecR n
 l : SpecL n
theorem allSp_zero : AllSp 0 := by
 constructor
 · intro W0 w c s hv h hn; simp only [enough, Md.rank] at hn; omega
 · intro W0 w c s k hv h h1 h7 hn; simp only [enough, Md.rank] at hn; omega
 · intro W0 w c s hv h hn; simp only [enough, Md.rank] at hn; omega
 · intro W0 w c s hv h hn; simp only [enough, Md.rank] at hn; omega
 · intro W0 w c s hv h hn; simp only [enough, Md.rank] at hn; omega
 · intro W0 w c s hv h hn; simp only [enough, Md.rank] at hn; omega
 · intro W0 w B r c s p k ty v xs ys hv h hn; simp only [enough, Md.rank] at hn; omega
 · intro W0 w c s hv h hn; simp only [enough, Md.rank] at hn; omega
 · intro W0 w c s hv h hn; simp only [enough, Md.rank] at hn; omega
theorem allSp : ∀ n, AllSp n := by
 intro n
 induction n using Nat.strongRecOn with
 | ind n ih =>
   cases n with
   | zero => exact allSp_zero
   | succ n =>
     have h := ih n (by omega)
     exact ⟨expr_of n h.j, joined_of n h.s (fun m hm => (ih m (by omega)).j), signed_of n h.s h.f, followed_of n h.a (fun m hm => (ih m (by omega)).u), atom_of n h.u h.x, fixed_of n h.u h.r h.e, used_of n h.r, args_of n h.l, listed_of n (fun m hm => (ih m (by omega)).e)⟩
theorem ex_any : ExAny := fun W0 w c s hv h => (allSp (14 * s.len + 9)).e W0 w c s hv h (Nat.le_refl _)
end
end Go.Proofs.YtaclhdpjkgoadaaGreatDoor
