/- heap.New, as it landed: its plan, its places. -/
import Derived.Test.YteogphbdpjnjoaaGreatHrH
import Derived.Maps.Own
import Derived.Deep.RegionWith
set_option linter.unusedSimpArgs false
set_option linter.unusedVariables false
namespace Go.Proofs.YteogphbdpjnjoaaGreat
open Go.RowKit Go.Maps Go.WideMaps
theorem Tryz.infoField : (Tryz.prog.info? 55).map (fun i => (i.zero, i.size, i.bytes)) = some (some (.agg #[.bool false, .string ⟨#[]⟩, .string ⟨#[]⟩, .slice none 0 0]), 4, 64) := by kernel_rfl
theorem Tryz.infoClass : (Tryz.prog.info? 51).map (fun i => (i.zero, i.size, i.bytes)) = some (some (.agg #[.string ⟨#[]⟩, .string ⟨#[]⟩, .slice none 0 0, .slice none 0 0]), 4, 80) := by kernel_rfl
/-- Cells put in, one behind the other. -/
def setN (cs : List Value) (o : Nat) : List Value → List Value
  | [] => cs
  | u :: us => setN (cs.set o u) (o + 1) us
theorem setN_len : ∀ (us : List Value) (o : Nat) (cs : List Value), (setN cs o us).length = cs.length
  | [], _, _ => rfl
  | u :: us, o, cs => by rw [setN, setN_len us]; simp
theorem setN_out : ∀ (us : List Value) (o j : Nat) (cs : List Value), (j < o ∨ o + us.length ≤ j) → (setN cs o us)[j]? = cs[j]?
  | [], _, _, _, _ => rfl
  | u :: us, o, j, cs, h => by
    rw [setN, setN_out us (o + 1) j _ (by simp at h; omega), List.getElem?_set]
    rw [if_neg (by simp at h; omega)]
theorem stored_all {base e size g n cap : Nat} : ∀ (us : List Value) (o : Nat) (xs : List Value) {w : World}, w.ownsRow base e size (.slice (some ⟨g, 0, none⟩) n cap) n xs → (w.setCells g o us).ownsRow base e size (.slice (some ⟨g, 0, none⟩) n cap) n (setN xs o us) ∧ w.grownBy (w.setCells g o us) (some g)
  | [], o, xs, w, h => ⟨h, grown_refl _ _⟩
  | u :: us, o, xs, w, h => by
    obtain ⟨h1, h2⟩ := h.stored o u
    obtain ⟨h3, h4⟩ := stored_all us (o + 1) _ h1
    exact ⟨h3, h2.trans h4⟩
/-- The first k of n classes bear names. -/
def NmTo (cs : List Value) (n k : Nat) : Prop := cs.length = n * 4 ∧ ∀ j, j < k → ∃ (s s2 : ByteArray) (A2 : Option Addr) (n2 k2 : Nat) (A3 : Option Addr) (n3 k3 : Nat), s.size ≤ maxLen ∧ cs[j * 4]? = some (.string s) ∧ cs[j * 4 + 1]? = some (.string s2) ∧ cs[j * 4 + 2]? = some (.slice A2 n2 k2) ∧ cs[j * 4 + 3]? = some (.slice A3 n3 k3)
theorem setN_4 {cs : List Value} {o : Nat} {u0 u1 u2 u3 : Value} (h : o + 3 < cs.length) : (setN cs o [u0, u1, u2, u3])[o]? = some u0 ∧ (setN cs o [u0, u1, u2, u3])[o + 1]? = some u1 ∧ (setN cs o [u0, u1, u2, u3])[o + 2]? = some u2 ∧ (setN cs o [u0, u1, u2, u3])[o + 3]? = some u3 := by
  simp only [setN]
  refine ⟨?_, ?_, ?_, ?_⟩
  · rw [List.getElem?_set_ne (by omega), List.getElem?_set_ne (by omega), List.getElem?_set_ne (by omega), List.getElem?_set_self (by omega)]
  · rw [List.getElem?_set_ne (by omega), List.getElem?_set_ne (by omega), List.getElem?_set_self (by simp; omega)]
  · rw [List.getElem?_set_ne (by omega), List.getElem?_set_self (by simp; omega)]
  · rw [List.getElem?_set_self (by simp; omega)]
theorem NmTo.step {cs : List Value} {n k : Nat} (h : NmTo cs n k) (hk : k < n) {s : ByteArray} (hs : s.size ≤ maxLen) (s2 : ByteArray) (A2 : Option Addr) (n2 k2 : Nat) (A3 : Option Addr) (n3 k3 : Nat) : NmTo (setN cs (k * 4) [.string s, .string s2, .slice A2 n2 k2, .slice A3 n3 k3]) n (k + 1) := by
  refine ⟨by rw [setN_len]; exact h.1, fun j hj => ?_⟩
  by_cases e : j = k
  · subst e
    have hl := h.1
    obtain ⟨e0, e1, e2, e3⟩ := setN_4 (cs := cs) (o := j * 4) (u0 := .string s) (u1 := .string s2) (u2 := .slice A2 n2 k2) (u3 := .slice A3 n3 k3) (by omega)
    exact ⟨s, s2, A2, n2, k2, A3, n3, k3, hs, e0, e1, e2, e3⟩
  · obtain ⟨t, t2, B2, m2, l2, B3, m3, l3, ht, e0, e1, e2, e3⟩ := h.2 j (by omega)
    exact ⟨t, t2, B2, m2, l2, B3, m3, l3, ht, by rw [setN_out _ _ _ _ (by simp; omega)]; exact e0, by rw [setN_out _ _ _ _ (by simp; omega)]; exact e1, by rw [setN_out _ _ _ _ (by simp; omega)]; exact e2, by rw [setN_out _ _ _ _ (by simp; omega)]; exact e3⟩
/-- The plan's classes. -/
def PlN (w : World) (A : Option Addr) (n : Nat) : Prop := 0 < n → ∃ b o, A = some ⟨b, o, none⟩ ∧ ∀ i, i < n → ∃ (s s2 : ByteArray) (A2 : Option Addr) (n2 k2 : Nat) (A3 : Option Addr) (n3 k3 : Nat), s.size ≤ maxLen ∧ w.cell? ⟨b, o + i * 4, none⟩ = some (.string s) ∧ w.cell? ⟨b, o + i * 4 + 1, none⟩ = some (.string s2) ∧ w.cell? ⟨b, o + i * 4 + 2, none⟩ = some (.slice A2 n2 k2) ∧ w.cell? ⟨b, o + i * 4 + 3, none⟩ = some (.slice A3 n3 k3)
theorem PlN.of {w : World} {base b n cap : Nat} {cs : List Value} (h : w.ownsRow base 51 4 (.slice (some ⟨b, 0, none⟩) n cap) n cs) (hc : NmTo cs n n) : PlN w (some ⟨b, 0, none⟩) n := fun h0 => by
  refine ⟨b, 0, rfl, fun i hi => ?_⟩
  obtain ⟨s, s2, A2, n2, k2, A3, n3, k3, hs, e0, e1, e2, e3⟩ := hc.2 i hi
  have hl := hc.1
  have at_ : ∀ j u, cs[j]? = some u → w.cell? ⟨b, 0 + j, none⟩ = some u := fun j u e => by
    have hj := (List.getElem?_eq_some_iff.1 e).1
    rw [Nat.zero_add, h.cellAt j (by omega)]; exact e
  exact ⟨s, s2, A2, n2, k2, A3, n3, k3, hs, at_ _ _ e0, at_ _ _ e1, at_ _ _ e2, at_ _ _ e3⟩
theorem PlN.below {w w' : World} {A : Option Addr} {n : Nat} (h : PlN w A n) (hb : Below w.heap.size w w') : PlN w' A n := fun h0 => by
  obtain ⟨b, o, e, hc⟩ := h h0
  refine ⟨b, o, e, fun i hi => ?_⟩
  obtain ⟨s, s2, A2, n2, k2, A3, n3, k3, hs, c0, c1, c2, c3⟩ := hc i hi
  exact ⟨s, s2, A2, n2, k2, A3, n3, k3, hs, KeepC.below hb _ _ c0, KeepC.below hb _ _ c1, KeepC.below hb _ _ c2, KeepC.below hb _ _ c3⟩
structure HnR (w : World) (n rb cb pb : Nat) (cs : List Value) (W : World) : Prop where
  bel : Below w.heap.size w W
  res : Bx W rb #[.slice none 0 0] 24
  row : W.ownsRow w.heap.size 51 4 (.slice (some ⟨cb, 0, none⟩) n n) n cs
  box : Bx W pb #[.slice (some ⟨cb, 0, none⟩) n n] 24
  ne1 : rb ≠ cb
  ne2 : pb ≠ cb
section
variable {w : World} {n rb cb pb : Nat} {cs : List Value} {W : World}
theorem HnR.next {W' : World} (h : HnR w n rb cb pb cs W) (hb : Below W.heap.size W W') : HnR w n rb cb pb cs W' :=
  ⟨h.bel.trans (hb.mono h.bel.size), h.res.next hb, own_next h.row hb, h.box.next hb, h.ne1, h.ne2⟩
theorem HnR.store (h : HnR w n rb cb pb cs W) (o : Nat) (us : List Value) : HnR w n rb cb pb (setN cs o us) (W.setCells cb o us) := by
  obtain ⟨h1, h2⟩ := stored_all us o cs h.row
  have hlt := (h.row.lt cb rfl)
  refine ⟨h.bel.grown h2 h.bel.size (fun k hk => by cases hk; exact hlt.1), ?_, h1, ?_, h.ne1, h.ne2⟩
  · exact (h2.block rb (by have := h.res.lt; omega) (by simp; exact h.ne1)).trans h.res
  · exact (h2.block pb (by have := h.box.lt; omega) (by simp; exact h.ne2)).trans h.box
end
/-- The texts that are copied are not too long. -/
def Z48 (l : List Cls) : Prop := ∀ c ∈ l, c.1.1.size ≤ 281474976710656 ∧ c.1.2.size ≤ 281474976710656 ∧ ∀ f ∈ c.2, f.1.size ≤ 281474976710656
theorem cloneN_any (s : ByteArray) (w : World) (hs : s.size ≤ 281474976710656) : Calls Tryz.prog 29 #[.string s] w fun e w' => e = .returned (.string s) ∧ Below w.heap.size w w' := by
  go_enter Tryz.func29, Tryz.ntmps29
  go_wp2_with (go_at_call 55; refine (Tryz.stringslite_Clone _ _ hs).mono ?_; rintro e w1 ⟨rfl, hb⟩)
  go_ret
  exact ⟨rfl, hb⟩
theorem Bx.upN {w : World} {b : Nat} {cs : Array Value} {T : TypeId} (h : Bx w b cs T) (o : Obj) : Bx (w.alloc o) b cs T := h.next ((Below.refl _ _).alloc (Nat.le_refl _) o)
theorem hn_made {w w1 : World} {A : Option Addr} {n cap : Nat} {cs : List Value}
    (ho : w1.ownsRow w.heap.size 51 4 (.slice (some ⟨((w.alloc (.cells #[.slice A n cap] 24)).alloc (.cells #[.slice none 0 0] 24)).heap.size, 0, none⟩) n n) n cs)
    (hg : ((w.alloc (.cells #[.slice A n cap] 24)).alloc (.cells #[.slice none 0 0] 24)).grownBy w1 none) :
    HnR w n (w.heap.size + 1) (w.heap.size + 2) w1.heap.size cs (w1.alloc (.cells #[.slice (some ⟨w.heap.size + 2, 0, none⟩) n n] 24)) ∧ (w1.alloc (.cells #[.slice (some ⟨w.heap.size + 1 + 1, 0, none⟩) n n] 24)).cell? ⟨w.heap.size, 0, none⟩ = some (.slice A n cap) := by
  have hb2 : Below w.heap.size w ((w.alloc (.cells #[.slice A n cap] 24)).alloc (.cells #[.slice none 0 0] 24)) := ((Below.refl _ w).alloc (Nat.le_refl _) _).alloc (by simp) _
  have hbw : Below ((w.alloc (.cells #[.slice A n cap] 24)).alloc (.cells #[.slice none 0 0] 24)).heap.size ((w.alloc (.cells #[.slice A n cap] 24)).alloc (.cells #[.slice none 0 0] 24)) w1 := (Below.refl _ _).grown hg (Nat.le_refl _) (fun k h => by cases h)
  have hX1 : Bx w1 w.heap.size #[.slice A n cap] 24 := (Bx.upN (Bx.new w #[.slice A n cap] 24) (.cells #[.slice none 0 0] 24)).next hbw
  have hY0 : Bx ((w.alloc (.cells #[.slice A n cap] 24)).alloc (.cells #[.slice none 0 0] 24)) (w.heap.size + 1) #[.slice none 0 0] 24 := by have := Bx.new (w.alloc (.cells #[.slice A n cap] 24)) #[.slice none 0 0] 24; simpa using this
  have hY1 := hY0.next hbw
  have hb1 : Below w.heap.size w w1 := hb2.trans (hbw.mono hb2.size)
  simp only [World.size_alloc, Nat.add_assoc, Nat.reduceAdd] at ho
  have hlt1 := ho.lt _ rfl
  exact ⟨⟨hb1.alloc hb1.size _, Bx.upN hY1 _, ho.alloc _, Bx.new _ _ _, by omega, by have := hlt1.2; simp at this; omega⟩, (Bx.upN hX1 _).cell 0⟩
/-- Within a class: its copy, its fields' own row. -/
structure HnI (w : World) (n rb cb pb : Nat) (cs : List Value) (kb lb : Nat) (ccs : Array Value) (m : Nat) (fcs : List Value) (W : World) : Prop where
  mem : HnR w n rb cb pb cs W
  cls : Bx W kb ccs 51
  row : W.ownsRow w.heap.size 55 4 (.slice (some ⟨lb, 0, none⟩) m m) m fcs
  len : fcs.length = m * 4
  ne : lb ≠ rb ∧ lb ≠ cb ∧ lb ≠ pb ∧ lb ≠ kb
  low : w.heap.size ≤ kb
section
variable {w : World} {n rb cb pb kb lb m : Nat} {cs fcs : List Value} {ccs : Array Value} {W : World}
theorem HnI.next {W' : World} (h : HnI w n rb cb pb cs kb lb ccs m fcs W) (hb : Below W.heap.size W W') : HnI w n rb cb pb cs kb lb ccs m fcs W' :=
  ⟨h.mem.next hb, h.cls.next hb, own_next h.row hb, h.len, h.ne, h.low⟩
theorem HnI.store (h : HnI w n rb cb pb cs kb lb ccs m fcs W) (o : Nat) (us : List Value) : HnI w n rb cb pb cs kb lb ccs m (setN fcs o us) (W.setCells lb o us) := by
  obtain ⟨h1, h2⟩ := stored_all us o fcs h.row
  have hlt := (h.row.lt lb rfl)
  have hc := (h.mem.row.lt cb rfl)
  refine ⟨⟨h.mem.bel.grown h2 h.mem.bel.size (fun k hk => by cases hk; exact hlt.1), ?_, h.mem.row.kept h2 (.inr (by simp [Value.ownBlock]; exact fun e => h.ne.2.1 e.symm)), ?_, h.mem.ne1, h.mem.ne2⟩, ?_, h1, by rw [setN_len]; exact h.len, h.ne, h.low⟩
  · exact (h2.block rb h.mem.res.lt (by simp; exact fun e => h.ne.1 e.symm)).trans h.mem.res
  · exact (h2.block pb h.mem.box.lt (by simp; exact fun e => h.ne.2.2.1 e.symm)).trans h.mem.box
  · exact (h2.block kb h.cls.lt (by simp; exact fun e => h.ne.2.2.2 e.symm)).trans h.cls
theorem HnI.cells (h : HnI w n rb cb pb cs kb lb ccs m fcs W) {q : Nat} (hq : q < m) : ∃ u0 u1 u2 u3, W.cell? ⟨lb, q * 4, none⟩ = some u0 ∧ W.cell? ⟨lb, q * 4 + 1, none⟩ = some u1 ∧ W.cell? ⟨lb, q * 4 + 2, none⟩ = some u2 ∧ W.cell? ⟨lb, q * 4 + 3, none⟩ = some u3 := by
  have hl := h.len
  have at_ : ∀ j, j < m * 4 → ∃ u, W.cell? ⟨lb, j, none⟩ = some u := fun j hj => ⟨fcs[j]'(by omega), by rw [h.row.cellAt j hj]; exact List.getElem?_eq_getElem _⟩
  obtain ⟨u0, c0⟩ := at_ (q * 4) (by omega)
  obtain ⟨u1, c1⟩ := at_ (q * 4 + 1) (by omega)
  obtain ⟨u2, c2⟩ := at_ (q * 4 + 2) (by omega)
  obtain ⟨u3, c3⟩ := at_ (q * 4 + 3) (by omega)
  exact ⟨u0, u1, u2, u3, c0, c1, c2, c3⟩
theorem HnR.cells (h : HnR w n rb cb pb cs W) (hl : cs.length = n * 4) {q : Nat} (hq : q < n) : ∃ u0 u1 u2 u3, W.cell? ⟨cb, q * 4, none⟩ = some u0 ∧ W.cell? ⟨cb, q * 4 + 1, none⟩ = some u1 ∧ W.cell? ⟨cb, q * 4 + 2, none⟩ = some u2 ∧ W.cell? ⟨cb, q * 4 + 3, none⟩ = some u3 := by
  have at_ : ∀ j, j < n * 4 → ∃ u, W.cell? ⟨cb, j, none⟩ = some u := fun j hj => ⟨cs[j]'(by omega), by rw [h.row.cellAt j hj]; exact List.getElem?_eq_getElem _⟩
  obtain ⟨u0, c0⟩ := at_ (q * 4) (by omega)
  obtain ⟨u1, c1⟩ := at_ (q * 4 + 1) (by omega)
  obtain ⟨u2, c2⟩ := at_ (q * 4 + 2) (by omega)
  obtain ⟨u3, c3⟩ := at_ (q * 4 + 3) (by omega)
  exact ⟨u0, u1, u2, u3, c0, c1, c2, c3⟩
theorem hn_inner {w1 : World} (h : HnR w n rb cb pb cs W) {o : Obj} {T : TypeId} (ho : o = .cells ccs 51) (hown : w1.ownsRow w.heap.size 55 4 (.slice (some ⟨(W.alloc o).heap.size, 0, none⟩) m m) m fcs) (hg : (W.alloc o).grownBy w1 none) (hl : fcs.length = m * 4) :
    HnI w n rb cb pb cs W.heap.size (W.heap.size + 1) ccs m fcs w1 ∧ Below W.heap.size W w1 := by
  subst ho
  have hbw : Below (W.alloc (.cells ccs 51)).heap.size (W.alloc (.cells ccs 51)) w1 := (Below.refl _ _).grown hg (Nat.le_refl _) (fun k h => by cases h)
  have hb1 : Below W.heap.size W w1 := below_box hbw
  simp only [World.size_alloc] at hown
  have e1 := h.res.lt; have e2 := h.box.lt; have e3 : cb < W.heap.size := (h.row.lt cb rfl).2; have e4 := h.bel.size
  exact ⟨⟨h.next hb1, (Bx.new W ccs _).next hbw, hown, hl, ⟨by omega, by omega, by omega, by omega⟩, by omega⟩, hb1⟩
end
set_option maxRecDepth 100000 in
set_option maxHeartbeats 4000000 in
theorem plan_any (w : World) (v : Value) (l : List Cls) (h : PgF w v l) (hz : Z48 l) : Calls Tryz.prog 23 #[.agg #[v]] w fun e w' => ∃ A, e = .returned (.agg #[.slice A l.length l.length]) ∧ PlN w' A l.length ∧ Below w.heap.size w w' := by
  have hX0 := Bx.new w #[v] 24
  have HF := Lib.hid h
  have HZ := Lib.hid hz
  obtain ⟨A, cap, rfl, hcap, hbig, _, _⟩ := h
  obtain ⟨n, hn⟩ : ∃ n, l.length = n := ⟨_, rfl⟩
  have HN := Lib.hid hn
  rw [hn] at HF hcap hbig hX0 ⊢
  clear hn hz
  obtain ⟨ic, hic, hc0, hc1, hc2⟩ := info_parts Tryz.infoClass
  have c0 := hX0.cell 0
  clear hX0
  go_enter Tryz.func23, Tryz.ntmps23
  go_wp2_with (at_make; refine wpList_make_full _ rfl (.tmp 11) (.tmp 11) 22 rfl w.heap.size 51 ic _ 4 Tryz.underlying22 hic hc0 hc1 .i64 .i64 _ _ n rfl rfl (by omega) (by omega) (by rw [hc2]; omega) (by unfold maxLen; omega) (by simp; omega) ?_; intro w1 hown1 hgr1; obtain ⟨hM1, d0⟩ := hn_made hown1 hgr1; have HM1 := Lib.hid hM1; clear c0 hown1 hgr1 hM1)
  clear d0 hic hc0 hc1 hc2
  refine gen_worldK (HnR w n (w.heap.size + 1) (w.heap.size + 2) w1.heap.size _) HM1.out ?_
  intro W2 hM2
  have HM2 := Lib.hid hM2
  clear hM2 HM1
  obtain ⟨pb, hpb⟩ : ∃ q, w1.heap.size = q := ⟨_, rfl⟩
  rw [hpb] at HM2 ⊢
  clear hpb w1
  go_loopw [17] (fun v17 wr => ∃ (k : Nat) (cs : List Value), k ≤ n ∧ v17 = .int .i64 k ∧ HnR w n (w.heap.size + 1) (w.heap.size + 2) pb cs wr ∧ NmTo cs n k) (fun v17 _ => n - (intOf v17).toNat)
  case atStart => exact ⟨0, _, Nat.zero_le _, rfl, HM2.out, by simp [madeCells], fun j h => by omega⟩
  case round =>
    obtain ⟨k, cs, hk, rfl, hR, hT⟩ := hrel
    clear HM2
    have HR := Lib.hid hR
    have HT := Lib.hid hT
    by_cases hlt : k < n
    · obtain ⟨x, hx⟩ : ∃ x, l[k]? = some x := ⟨l[k]'(by rw [HN.out]; exact hlt), List.getElem?_eq_getElem _⟩
      obtain ⟨b, o, e, ⟨hsn, hss⟩, z0, z1, A2, n2, k2, A3, n3, k3, z2, hfr, z3⟩ := HF.out.at_ hx
      subst e
      have a0 := KeepC.below hR.bel _ _ z0; have a1 := KeepC.below hR.bel _ _ z1; have a2 := KeepC.below hR.bel _ _ z2; have a3 := KeepC.below hR.bel _ _ z3
      clear z0 z1 z2 z3
      obtain ⟨hz1, hz2, hzf⟩ := HZ.out x (List.mem_of_getElem? hx)
      obtain ⟨⟨x1, x2⟩, fs⟩ := x
      have HZF := Lib.hid hzf
      clear hx hR hT hzf
      have HFR := Lib.hid hfr
      obtain ⟨A2', k2', e2, hc2, hm2, _, _⟩ := hfr
      injection e2 with e2a e2b e2c
      subst e2a e2b e2c
      obtain ⟨jf, hjf, hf0, hf1, hf2⟩ := info_parts Tryz.infoField
      obtain ⟨m, hm⟩ : ∃ m, fs.length = m := ⟨_, rfl⟩
      have HM := Lib.hid hm
      rw [hm] at HFR a2 hc2 hm2
      clear hm
      go_wp2_with (at_make; refine wpList_make_full _ rfl (.tmp 24) (.tmp 24) 48 rfl w.heap.size 55 jf _ 4 Tryz.underlying48 hjf hf0 hf1 .i64 .i64 _ _ m rfl rfl (by omega) (by omega) (by rw [hf2]; omega) (by unfold maxLen; omega) (by have := HR.out.bel.size; simp; omega) ?_; intro w2 hown2 hgr2; obtain ⟨hI, hb2⟩ := hn_inner (T := 0) HR.out rfl hown2 hgr2 (by simp [madeCells]); have HI := Lib.hid hI; have HB2 := Lib.hid hb2; clear hown2 hgr2; have d2 : w2.cell? ⟨wr.heap.size, 2, none⟩ = some (.slice A2 m k2) := hI.cls.cell 2; clear hI hb2)
      clear d2 hjf hf0 hf1 hf2 a0 a1 a2 a3
      refine gen_worldK (HnI w n (w.heap.size + 1) (w.heap.size + 2) pb cs wr.heap.size (wr.heap.size + 1) #[.string x1, .string x2, .slice A2 m k2, .slice A3 n3 k3] m _) HI.out ?_
      clear HI HB2 w2
      intro w2 hI
      have HI := Lib.hid hI
      clear hI
      obtain ⟨kb, hkb⟩ : ∃ q, wr.heap.size = q := ⟨_, rfl⟩
      rw [hkb] at HI ⊢
      clear hkb
      go_loopw [29] (fun v29 wx => ∃ (q : Nat) (fcs : List Value), q ≤ m ∧ v29 = .int .i64 q ∧ HnI w n (w.heap.size + 1) (w.heap.size + 2) pb cs kb (kb + 1) #[.string x1, .string x2, .slice A2 m k2, .slice A3 n3 k3] m fcs wx) (fun v29 _ => m - (intOf v29).toNat)
      case atStart => exact ⟨0, _, Nat.zero_le _, rfl, HI.out⟩
      case round =>
        obtain ⟨q, fcs, hq, rfl, hI⟩ := hrel
        clear HI
        have HI := Lib.hid hI
        by_cases hqm : q < m
        · obtain ⟨y, hy⟩ : ∃ y, fs[q]? = some y := ⟨fs[q]'(by rw [HM.out]; exact hqm), List.getElem?_eq_getElem _⟩
          obtain ⟨b5, o5, e5, ⟨hy1, hy2⟩, st, A6, n6, k6, a0, a1, a2, a3⟩ := (HFR.out.below hI.mem.bel).at_ hy
          subst e5
          have hzy := HZF.out _ (List.mem_of_getElem? hy)
          obtain ⟨y1, y2⟩ := y
          clear hy
          have HXa := Lib.hid (Bx.new wr #[.bool st, .string y1, .string y2, .slice A6 n6 k6] 55)
          have HIa := Lib.hid (hI.next ((Below.refl _ wr).alloc (Nat.le_refl _) (.cells #[.bool st, .string y1, .string y2, .slice A6 n6 k6] 55)))
          clear hI HI
          go_upto_region 9 with (fail)
          refine gen_worldK (fun W => HnI w n (w.heap.size + 1) (w.heap.size + 2) pb cs kb (kb + 1) #[.string x1, .string x2, .slice (some ⟨b5, o5, none⟩) m k2, .slice A3 n3 k3] m fcs W ∧ Bx W wr.heap.size #[.bool st, .string y1, .string y2, .slice A6 n6 k6] 55) ⟨HIa.out, HXa.out⟩ ?_
          clear HIa HXa a0 a1 a2 a3
          obtain ⟨fb, hfb⟩ : ∃ q, wr.heap.size = q := ⟨_, rfl⟩
          rw [hfb]
          clear hfb
          rintro W3 ⟨hI, hX⟩
          have HI := Lib.hid hI
          have HX := Lib.hid hX
          have hB0 : Below W3.heap.size W3 W3.drew := (Below.refl _ W3).drew
          obtain ⟨c0, c1, c2, c3⟩ := hX.get_4
          have hqm' : (q : Int) < m := by omega
          clear hI hX
          go_region_with (go_at_call 29; refine (cloneN_any _ _ hzy).mono ?_; rintro e w4 ⟨rfl, hc⟩; have hB1 := hB0.trans (hc.mono hB0.size); have hI4 := HI.out.next hB1; obtain ⟨d0, d1, d2, d3⟩ := (HX.out.next hB1).get_4; obtain ⟨u0, u1, u2, u3, p0, p1, p2, p3⟩ := hI4.cells hqm; have f0 := hI4.row.frozenAt (q * 4); have f1 := hI4.row.frozenAt (q * 4 + 1); have f2 := hI4.row.frozenAt (q * 4 + 2); have f3 := hI4.row.frozenAt (q * 4 + 3); have HI4 := Lib.hid hI4; clear hc hI4)
          all_goals
            go_wp2_with fail
            go_roundw
            case rel => exact ⟨q + 1, _, by omega, by go_num, HI4.out.store (q * 4) [.bool st, .string y1, .string ⟨#[]⟩, .slice none 0 0]⟩
            case measure => simp [intOf]; omega
        · have hqe : q = m := by omega
          subst hqe
          clear hI
          go_upto_region 11 with (fail)
          have hB0 : Below wr.heap.size wr wr.drew := (Below.refl _ wr).drew
          obtain ⟨c0, c1, c2, c3⟩ := HI.out.cls.get_4
          have cA : wr.cell? ⟨pb, 0, none⟩ = some (.slice (some ⟨w.heap.size + 2, 0, none⟩) n n) := HI.out.mem.box.cell 0
          have hlt' : (k : Int) < n := by omega
          have hcl := HT.out.1
          go_region_with (first
            | (go_at_call_of 29 (Value.string x1); refine (cloneN_any _ _ hz1).mono ?_; rintro e w4 ⟨rfl, hc⟩; have hB1 := hB0.trans (hc.mono hB0.size); have hI4 := HI.out.next hB1; obtain ⟨d0, d1, d2, d3⟩ := hI4.cls.get_4; have dA : w4.cell? ⟨pb, 0, none⟩ = some (.slice (some ⟨w.heap.size + 2, 0, none⟩) n n) := hI4.mem.box.cell 0; clear hc hI4)
            | (go_at_call_of 29 (Value.string x2); refine (cloneN_any _ _ hz2).mono ?_; rintro e w5 ⟨rfl, hc⟩; have hB2 := hB1.trans (hc.mono hB1.size); have hI5 := HI.out.next hB2; have eA : w5.cell? ⟨pb, 0, none⟩ = some (.slice (some ⟨w.heap.size + 2, 0, none⟩) n n) := hI5.mem.box.cell 0; obtain ⟨u0, u1, u2, u3, p0, p1, p2, p3⟩ := hI5.mem.cells hcl hlt; have f0 := hI5.mem.row.frozenAt (k * 4); have f1 := hI5.mem.row.frozenAt (k * 4 + 1); have f2 := hI5.mem.row.frozenAt (k * 4 + 2); have f3 := hI5.mem.row.frozenAt (k * 4 + 3); have HI5 := Lib.hid hI5; clear hc hI5))
          all_goals
            go_wp2_with fail
            go_roundw
            case rel => exact ⟨k + 1, _, by omega, by go_num, HI5.out.mem.store (k * 4) [.string x1, .string x2, .slice (some ⟨kb + 1, 0, none⟩) q q, .slice none 0 0], HT.out.step hlt hsn _ _ _ _ _ _ _⟩
            case measure => simp [intOf]; omega
    · have hke : k = n := by omega
      subst hke
      clear hR hT
      obtain r0 := HR.out.res.cell 0
      obtain rf := HR.out.res.fro 0
      have rA : wr.cell? ⟨pb, 0, none⟩ = some (.slice (some ⟨w.heap.size + 2, 0, none⟩) k k) := HR.out.box.cell 0
      go_wp2_with fail
      have hX := HR.out.res.set 0 (.slice (some ⟨w.heap.size + 2, 0, none⟩) k k)
      have hc : (wr.setCell ⟨w.heap.size + 1, 0, none⟩ (.slice (some ⟨w.heap.size + 2, 0, none⟩) k k)).cell? ⟨w.heap.size + 1, 0, none⟩ = some (.slice (some ⟨w.heap.size + 2, 0, none⟩) k k) := hX.cell 0
      refine bodyPost_ret (v := .agg #[.slice (some ⟨w.heap.size + 2, 0, none⟩) k k]) (by simp [results, Tryz.results23, go_sem, hc]) rfl ⟨_, rfl, ?_, ?_⟩
      · exact PlN.of (HR.out.row.kept (grown_set_atK _ _ _ _) (.inr (by simp [Value.ownBlock]))) HT.out
      · exact HR.out.bel.setCell (Nat.le_succ _) _
end Go.Proofs.YteogphbdpjnjoaaGreat
