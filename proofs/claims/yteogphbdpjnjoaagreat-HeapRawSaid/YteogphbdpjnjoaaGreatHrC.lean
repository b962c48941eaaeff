/- Classes with fields in memory; field.names, field.fields, field.check, field.sound. -/
import Derived.Test.YteogphbdpjnjoaaGreatHrB
set_option linter.unusedSimpArgs false
set_option linter.unusedVariables false
namespace Go.Proofs.YteogphbdpjnjoaaGreat
open Go.RowKit Go.Maps Go.WideMaps
abbrev Cls := Hdr × List Fld
/-- A program's classes in memory, their fields with them. -/
def PgF (w : World) (v : Value) (l : List Cls) : Prop := ∃ A cap, v = .slice A l.length cap ∧ l.length ≤ cap ∧ l.length ≤ 59 ∧ (∀ c ∈ l, c.1.1.size ≤ maxLen ∧ c.1.2.size ≤ maxLen) ∧
  (0 < l.length → ∃ b o, A = some ⟨b, o, none⟩ ∧ ∀ i c, l[i]? = some c → w.cell? ⟨b, o + i * 4, none⟩ = some (.string c.1.1) ∧ w.cell? ⟨b, o + i * 4 + 1, none⟩ = some (.string c.1.2) ∧
    ∃ (A2 : Option Addr) (n2 k2 : Nat) (A3 : Option Addr) (n3 k3 : Nat), w.cell? ⟨b, o + i * 4 + 2, none⟩ = some (.slice A2 n2 k2) ∧ FrV w (.slice A2 n2 k2) c.2 ∧ w.cell? ⟨b, o + i * 4 + 3, none⟩ = some (.slice A3 n3 k3))
theorem PgF.keep {w w' : World} (K : KeepC w w') {v : Value} {l : List Cls} (h : PgF w v l) : PgF w' v l := by
  obtain ⟨A, cap, e, h1, h2, h3, hc⟩ := h
  refine ⟨A, cap, e, h1, h2, h3, fun h0 => ?_⟩
  obtain ⟨b, o, hA, hx⟩ := hc h0
  refine ⟨b, o, hA, fun i c hi => ?_⟩
  obtain ⟨a0, a1, A2, n2, k2, A3, n3, k3, a2, hf, a3⟩ := hx i c hi
  exact ⟨K _ _ a0, K _ _ a1, A2, n2, k2, A3, n3, k3, K _ _ a2, hf.keep K, K _ _ a3⟩
theorem PgF.below {w w' : World} {v : Value} {l : List Cls} (h : PgF w v l) (hb : Below w.heap.size w w') : PgF w' v l := h.keep (KeepC.below hb)
theorem PgF.cl {w : World} {v : Value} {l : List Cls} (h : PgF w v l) : Cl w v (l.map (·.1)) := by
  obtain ⟨A, cap, e, h1, h2, h3, hc⟩ := h
  refine ⟨A, cap, by rw [List.length_map]; exact e, by rw [List.length_map]; exact h1, by rw [List.length_map]; exact h2, fun h0 => ?_⟩
  rw [List.length_map] at h0
  obtain ⟨b, o, hA, hx⟩ := hc h0
  refine ⟨b, o, hA, fun i c hi => ?_⟩
  rw [List.getElem?_map] at hi
  obtain ⟨d, hd, rfl⟩ := Option.map_eq_some_iff.1 hi
  obtain ⟨a0, a1, A2, n2, k2, A3, n3, k3, a2, hf, a3⟩ := hx i d hd
  exact ⟨a0, a1, A2, n2, k2, A3, n3, k3, a2, a3⟩
theorem PgF.at_ {w : World} {A : Option Addr} {n cap : Nat} {l : List Cls} (h : PgF w (.slice A n cap) l) {k : Nat} {c : Cls} (hx : l[k]? = some c) : ∃ b o, A = some ⟨b, o, none⟩ ∧ (c.1.1.size ≤ maxLen ∧ c.1.2.size ≤ maxLen) ∧ w.cell? ⟨b, o + k * 4, none⟩ = some (.string c.1.1) ∧ w.cell? ⟨b, o + k * 4 + 1, none⟩ = some (.string c.1.2) ∧
    ∃ (A2 : Option Addr) (n2 k2 : Nat) (A3 : Option Addr) (n3 k3 : Nat), w.cell? ⟨b, o + k * 4 + 2, none⟩ = some (.slice A2 n2 k2) ∧ FrV w (.slice A2 n2 k2) c.2 ∧ w.cell? ⟨b, o + k * 4 + 3, none⟩ = some (.slice A3 n3 k3) := by
  obtain ⟨A', cap', e, _, _, hz, hc⟩ := h
  injection e with e1 e2 e3
  obtain ⟨b, o, hA, hg⟩ := hc (by have := (List.getElem?_eq_some_iff.1 hx).1; omega)
  exact ⟨b, o, e1.trans hA, hz c (List.mem_of_getElem? hx), hg k c hx⟩
/-- A type that there is, by the classes' names. -/
theorem typeS_split (cs : List Hdr) (t : ByteArray) : typeS cs t = (inB t (cs.map (·.1)) || typeS [] t) := by
  have h2 : decide (0 ≤ findI cs t) = inB t (cs.map (·.1)) := by
    rw [Bool.eq_iff_iff, decide_eq_true_eq, inB_iff, ← plc_mem]
    unfold findI; split <;> simp <;> omega
  unfold typeS
  rw [isC_split cs t, h2]
  generalize inB t (cs.map (·.1)) = a
  generalize isCk [] t = b
  cases a <;> cases b <;> simp
def OwnsB (w : World) (m n : Nat) (l : List ByteArray) : Prop := w.ownsMap Tryz.prog 9 unitElem m n (setS l)
set_option maxRecDepth 100000 in
set_option maxHeartbeats 4000000 in
theorem names_any (w : World) (v : Value) (l : List Cls) (h : PgF w v l) : Calls Tryz.prog 39 #[.agg #[v]] w fun e w' => ∃ m, e = .returned (.map (some m)) ∧ OwnsB w' m l.length (l.map (·.1.1)) ∧ m < w'.heap.size ∧ Below w.heap.size w w' := by
  have hX0 := Bx.new w #[v] 24
  have hb1 : Below w.heap.size w (w.alloc (.cells #[v] 24)) := (Below.refl _ _).alloc (Nat.le_refl _) _
  have HF := Lib.hid (h.below hb1)
  obtain ⟨A, cap, rfl, hcap, hbig, _, _⟩ := h
  obtain ⟨n, hn⟩ : ∃ n, l.length = n := ⟨_, rfl⟩
  have HN := Lib.hid hn
  rw [hn] at HF hcap hbig hX0 hb1 ⊢
  clear hn
  have hmm := fun (n : Nat) w => run_makeMap_hint (P := Tryz.prog) Tryz.underlying102 n w
  obtain ⟨ns, hns⟩ : ∃ ns, l.map (·.1.1) = ns := ⟨_, rfl⟩
  have HNS := Lib.hid hns
  rw [hns]
  obtain ⟨W, hW⟩ : ∃ W, W = w.alloc (.cells #[.slice A n cap] 24) := ⟨_, rfl⟩
  rw [← hW] at hX0 hb1 HF
  have hWs : W.heap.size = w.heap.size + 1 := by rw [hW]; simp
  have HW := Lib.hid hW
  have HB1 := Lib.hid hb1
  have HX0 := Lib.hid hX0
  have c0 := hX0.cell 0
  clear hns hW hb1 hX0
  go_enter Tryz.func39, Tryz.ntmps39
  go_upto_region 1 with (fail)
  rw [← HW.out]
  go_wp2_with fail
  go_loopw [13] (fun v13 wr => ∃ k : Nat, k ≤ n ∧ v13 = .int .i64 k ∧ wr.ownsMap Tryz.prog 9 unitElem (w.heap.size + 1) k (setS (ns.take k)) ∧ Below W.heap.size W wr ∧ w.heap.size + 1 < wr.heap.size)
    (fun v13 _ => n - (intOf v13).toNat)
  case atStart => exact ⟨0, Nat.zero_le _, rfl, by rw [List.take_zero, setB_nil, ← hWs]; exact World.ownsMap_made _ _ _ _, (Below.refl _ _).alloc (Nat.le_refl _) _, by simp [hWs]⟩
  case round =>
    obtain ⟨k, hk, rfl, hown, hnx, hsz⟩ := hrel
    by_cases hlt : k < n
    · obtain ⟨x, hx⟩ : ∃ x, l[k]? = some x := ⟨l[k]'(by rw [HN.out]; exact hlt), List.getElem?_eq_getElem _⟩
      obtain ⟨b, o, e, ⟨hsn, _⟩, a0, a1, A2, n2, k2, A3, n3, k3, a2, _, a3⟩ := (HF.out.below hnx).at_ hx
      subst e
      have hkey := keyS hsn
      have hnk : ns[k]? = some x.1.1 := by rw [← HNS.out, List.getElem?_map, hx]; rfl
      have HST : Hid (setS (ns.take (k + 1)) = (setS (ns.take k)).put (keyB x.1.1) (.agg [])) := Lib.hid (by rw [List.take_add_one, hnk]; exact setB_snoc _ _)
      obtain ⟨⟨x1, x2⟩, x3⟩ := x
      clear hx hnk
      go_wp2_with (at_mapUpdate; refine wpList_mapUpdate_own _ rfl _ _ _ 102 rfl 9 128 lawS Tryz.underlying102 (unitElem (H := Unit)) (w.heap.size + 1) k _ rfl (hown.alloc _) (by unfold maxLen; omega) _ _ _ rfl rfl hkey _ [] unitElem_mk ?_; intro w1 hown1 hgrow1)
      have hs1 := hgrow1.size
      simp only [World.size_alloc] at hs1
      go_roundw
      case rel => exact ⟨k + 1, by omega, by go_num, by rw [HST.out]; exact hown1, (hnx.alloc hnx.size _).grown hgrow1 (by have := hnx.size; simp; omega) (fun j hj => by cases hj; omega), by omega⟩
      case measure => simp [intOf]; omega
    · have hke : k = n := by omega
      subst hke
      have hne : ns.take k = ns := by
        have : ns.length = k := by rw [← HNS.out, List.length_map]; exact HN.out
        rw [← this]; exact List.take_length
      rw [hne] at hown
      have HO := Lib.hid hown
      have HZ := Lib.hid hsz
      have HNX := Lib.hid hnx
      clear hown hne hsz hnx
      go_wp2_with fail
      go_ret
      exact ⟨_, rfl, HO.out, HZ.out, HB1.out.trans (HNX.out.mono HB1.out.size)⟩
@[go_sem] theorem is_cl_cl (v : Value) (w : World) : (Instr.typeAssert (.iface 105 v) 133 105 true).run Tryz.prog w = .ok (.tuple #[v, .bool true]) w := by kernel_rfl
set_option maxHeartbeats 4000000 in
theorem fields_any (w : World) (b o : Nat) (v : Value) (h : w.cell? ⟨b, o + 2, none⟩ = some v) : Calls Tryz.prog 63 #[.iface 105 (.pointer (some ⟨b, o, none⟩))] w fun e w' => e = .returned v ∧ Below w.heap.size w w' := by
  go_enter Tryz.func63, Tryz.ntmps63
  go_wp2_with fail
  go_ret
  exact ⟨rfl, Below.refl _ _⟩
set_option maxHeartbeats 4000000 in
theorem sound_any (w : World) (v : Value) (l : List Cls) (h : PgF w v l) : Calls Tryz.prog 38 #[.agg #[v]] w fun e w' => ∃ q : Bool, e = .returned (.bool q) ∧ (q = true ↔ GoodH (l.map (·.1))) ∧ Below w.heap.size w w' := by
  have hb1 : Below w.heap.size w (w.alloc (.cells #[v] 24)) := (Below.refl _ _).alloc (Nat.le_refl _) _
  have HC := Lib.hid (h.below hb1).cl
  have HG := Lib.hid (chk_good (cs := l.map (·.1)))
  have HB1 := Lib.hid hb1
  obtain ⟨A, cap, rfl, _⟩ := h
  obtain ⟨cs, hcs⟩ : ∃ cs, l.map (·.1) = cs := ⟨_, rfl⟩
  rw [hcs] at HC HG ⊢
  obtain ⟨a, ha⟩ : ∃ a, (chkL cs).1 = a := ⟨_, rfl⟩
  have HK := Lib.hid (kcheck_any HC.out)
  unfold ChkP at HK
  rw [ha] at HK HG
  clear hcs ha hb1
  go_enter Tryz.func38, Tryz.ntmps38
  go_wp2_with (go_at_call 62; refine HK.out.mono ?_; rintro e w1 ⟨rfl, hb⟩; have HB2 := Lib.hid hb; clear hb)
  go_ret
  exact ⟨_, rfl, by rw [← HG.out]; simp, HB1.out.trans (HB2.out.mono HB1.out.size)⟩
end Go.Proofs.YteogphbdpjnjoaaGreat
