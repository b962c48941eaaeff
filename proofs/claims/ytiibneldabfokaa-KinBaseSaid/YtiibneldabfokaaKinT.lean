/- kin: Find; what each statement of layer 6 asks for besides. -/
import Derived.Test.YtiibneldabfokaaKinN
set_option linter.unusedSimpArgs false
set_option linter.unusedVariables false
namespace Go.Proofs.Ytiibneldabfokaa
open Go.RowKit
def findI (cs : List Hdr) (s : ByteArray) : Int := if plc cs s < cs.length then (plc cs s : Int) else -1
set_option maxRecDepth 100000 in
set_option maxHeartbeats 8000000 in
theorem kfind_any {w : World} {v : Value} {cs : List Hdr} (h : Cl w v cs) (s : ByteArray) : Calls Try.prog 21 #[.agg #[v], .string s] w fun e w' => e = .returned (.int .i64 (findI cs s)) ∧ Below w.heap.size w w' := by
  have HX0 := Lib.hid (Bx.new w #[v] 25)
  have hb1 : Below w.heap.size w (w.alloc (.cells #[v] 25)) := (Below.refl _ _).alloc (Nat.le_refl _) _
  have HC := Lib.hid h
  obtain ⟨A, cap0, rfl, hcap0, h59, _⟩ := h
  obtain ⟨m, hm⟩ : ∃ m, cs.length = m := ⟨_, rfl⟩
  have HM := Lib.hid hm
  rw [hm] at HX0 hb1 hcap0 h59 ⊢
  have c0 := HX0.out.cell 0
  have HB1 := Lib.hid hb1
  clear hm hb1
  go_enter Try.func21, Try.ntmps21
  go_wp2_with fail
  go_loop [9] (fun v9 => ∃ k : Nat, v9 = .int .i64 k ∧ k ≤ m ∧ Hid (plc cs s = k + plc (cs.drop k) s)) (fun v9 => m - (intOf v9).toNat)
  case atStart => exact ⟨0, rfl, Nat.zero_le _, Lib.hid (by simp)⟩
  case round =>
    obtain ⟨k, rfl, hk, hE⟩ := hrel
    by_cases hlt : k < m
    · obtain ⟨c, hck⟩ : ∃ c, cs[k]? = some c := ⟨cs[k]'(by rw [HM.out]; exact hlt), List.getElem?_eq_getElem _⟩
      have HC2 := HC.out
      rw [HM.out] at HC2
      obtain ⟨b, o, A2, n2, k2, A3, n3, k3, e, a0, _⟩ := cl_cells HC2 hck
      subst e
      have a1 := KeepC.below HB1.out _ _ a0
      obtain ⟨x1, x2⟩ := c
      by_cases hq : x1 = s
      · have HP := Lib.hid (plc_hit hE.out hck hq)
        subst hq
        clear hck HC2 a0
        go_wp2_with fail
        go_ret
        refine ⟨?_, HB1.out⟩
        unfold findI
        rw [HP.out, if_pos (by rw [HM.out]; exact hlt)]; rfl
      · have HP := Lib.hid (plc_next hE.out hck hq)
        have hq2 := ba_ne hq
        clear hck HC2 a0 hq hE
        go_wp2_with fail
        go_round
        case rel => exact ⟨k + 1, by simp, by omega, HP⟩
        case measure => simp [intOf]; omega
    · have HP := Lib.hid (plc_end hE.out (by rw [HM.out]; omega) (by rw [HM.out]; exact hk))
      clear hE
      go_wp2_with fail
      go_ret
      refine ⟨?_, HB1.out⟩
      unfold findI
      rw [HP.out, if_neg (by omega)]; rfl
def nA : ByteArray := ⟨#[65]⟩
def nB : ByteArray := ⟨#[66]⟩
def nZ : ByteArray := ⟨#[90]⟩
def csA : List Hdr := [(nA, kExc), (nB, nA)]
def csB : List Hdr := [(nA, nB), (nB, nA)]
def csC : List Hdr := [(nA, ⟨#[]⟩), (nA, ⟨#[]⟩)]
def csD : List Hdr := [(nA, nZ)]
def hdrV (h : Hdr) : List Value := [.string h.1, .string h.2, .slice none 0 0, .slice none 0 0]
def hdrsV (l : List Hdr) : List Value := l.flatMap hdrV
theorem hdrsV_at : ∀ {l : List Hdr} {i : Nat} {h : Hdr} {j : Nat}, l[i]? = some h → j < 4 → (hdrsV l)[i * 4 + j]? = (hdrV h)[j]?
  | [], i, h, j, e, _ => by simp at e
  | x :: l, 0, h, j, e, hj => by
    simp at e; subst e
    rw [hdrsV, List.flatMap_cons, Nat.zero_mul, Nat.zero_add, List.getElem?_append_left (by simpa [hdrV] using hj)]
  | x :: l, i + 1, h, j, e, hj => by
    have ih := hdrsV_at (l := l) (i := i) (h := h) (j := j) (by simpa using e) hj
    have hx : (hdrV x).length = 4 := rfl
    have e2 : hdrsV (x :: l) = hdrV x ++ hdrsV l := rfl
    rw [e2, List.getElem?_append_right (by rw [hx]; omega), hx, ← ih]
    congr 1; omega
/-- Classes in a row of their own. -/
theorem cl_row {w : World} {b n cap : Nat} {l : List Hdr} (hn : l.length = n) (hc : n ≤ cap) (h59 : n ≤ 59) (h : ∀ j u, (hdrsV l)[j]? = some u → w.cell? ⟨b, j, none⟩ = some u) : Cl w (.slice (some ⟨b, 0, none⟩) n cap) l := by
  subst hn
  refine ⟨_, cap, rfl, hc, h59, fun _ => ⟨b, 0, rfl, fun i x hx => ?_⟩⟩
  have key : ∀ j, j < 4 → ∀ u, (hdrV x)[j]? = some u → w.cell? ⟨b, 0 + i * 4 + j, none⟩ = some u := fun j hj u hu => by
    rw [Nat.zero_add]; exact h _ _ (by rw [hdrsV_at hx hj]; exact hu)
  exact ⟨key 0 (by decide) _ rfl, key 1 (by decide) _ rfl, none, 0, 0, none, 0, 0, key 2 (by decide) _ rfl, key 3 (by decide) _ rfl⟩
theorem cl_bx {w : World} {b n : Nat} {l : List Hdr} (hn : l.length = n) (h59 : n ≤ 59) (h : Bx w b (hdrsV l).toArray 34) : Cl w (.slice (some ⟨b, 0, none⟩) n n) l := by
  refine cl_row hn (Nat.le_refl _) h59 fun j u hu => ?_
  rw [h.cell j]; simpa using hu
theorem sm_A : Sm csA := by intro h hh; simp only [csA, List.mem_cons, List.not_mem_nil, or_false] at hh; rcases hh with rfl | rfl <;> decide
theorem ch_A : ∀ l, Ch (famL csA) (plc (famL csA) nB) l → l = [6, 5, 0] := by
  rintro l ⟨i, hw, he⟩
  have e6 : plc (famL csA) nB = 6 := by decide +kernel
  rw [e6] at hw
  have u6 : upp (famL csA) 6 = 5 := by decide +kernel
  have u5 : upp (famL csA) 5 = 0 := by decide +kernel
  have u0 : upp (famL csA) 0 = 7 := by decide +kernel
  have hl7 : (famL csA).length = 7 := by decide +kernel
  have i3 : ∀ j, it (upp (famL csA)) (3 + j) 6 = 7 := fun j => by
    rw [it_add]; show it (upp (famL csA)) j (upp (famL csA) (upp (famL csA) (upp (famL csA) 6))) = 7
    rw [u6, u5, u0, ← hl7]; exact it_none _ j
  have hle : l.length ≤ 3 := by
    apply Nat.le_of_not_lt; intro h
    have h3 := hw.lt _ (hw.of (j := 3) h)
    rw [i3 0, hl7] at h3; omega
  have hat := hw.at_
  match l, hle with
  | [], _ => rw [show i = 6 from hat] at he; rcases he with h | h; omega; simp at h
  | [a], _ =>
    have := hw.all 0 (by simp); simp [it] at this
    have h5 : i = 5 := by rw [hat]; show it _ 1 6 = 5; simp only [it]; exact u6
    rw [h5] at he; rcases he with h | h; omega; simp at h; omega
  | [a, b], _ =>
    have h1 := hw.all 0 (by simp); have h2 := hw.all 1 (by simp); simp [it, u6] at h1 h2
    have h5 : i = 0 := by rw [hat]; show it _ 2 6 = 0; simp only [it]; rw [u6, u5]
    rw [h5] at he; rcases he with h | h; omega; simp at h; omega
  | [a, b, c], _ =>
    have h1 := hw.all 0 (by simp); have h2 := hw.all 1 (by simp); have h3 := hw.all 2 (by simp); simp [it, u6, u5] at h1 h2 h3
    rw [h1, h2, h3]
def nNull : ByteArray := ⟨#[110, 117, 108, 108]⟩
def nInt : ByteArray := ⟨#[105, 110, 116]⟩
def nVoid : ByteArray := ⟨#[118, 111, 105, 100]⟩
theorem ck_A : chkL csA = (0, 0) := by decide +kernel
theorem ck_B : chkL csB = (8, 0) := by decide +kernel
theorem ck_C : chkL csC = (6, 1) := by decide +kernel
theorem ck_D : chkL csD = (7, 0) := by decide +kernel
theorem kd_A : kidsL csA kExc = [nA, nB] := by decide +kernel
theorem bs_R : isC [] kRan = true := by decide +kernel
theorem bs_A : isC [] nA = false := by decide +kernel
theorem sb_1 : subS csA nB nA = true := by decide +kernel
theorem sb_2 : subS csA nA nB = false := by decide +kernel
theorem sb_3 : subS csA nNull nA = true := by decide +kernel
theorem sb_4 : subS csA nNull nInt = false := by decide +kernel
theorem sp_1 : superS csA kZer = ⟨#[69, 120, 99, 101, 112, 116, 105, 111, 110]⟩ := by decide +kernel
theorem fi_1 : findI csA nB = 1 := by decide +kernel
theorem ty_1 : typeS csA nInt = true := by decide +kernel
theorem ty_2 : typeS csA nVoid = false := by decide +kernel
section
variable {w : World} {v : Value} {cs : List Hdr}
theorem kcheck_is (h : Cl w v cs) {a : Int} {b : Nat} (e : chkL cs = (a, b)) : Calls Try.prog 7 #[.agg #[v]] w fun x w' => x = .returned (.tuple #[.int .i64 a, .int .i64 b]) ∧ Below w.heap.size w w' := by
  have := kcheck_any h
  unfold ChkP at this
  rw [e] at this; exact this
theorem kbase_is {s : ByteArray} {b : Bool} (e : isC [] s = b) : Calls Try.prog 14 #[.string s] w fun x w' => x = .returned (.bool b) ∧ Below w.heap.size w w' := by rw [← e]; exact kbase_any s w
theorem sub_is (h : Cl w v cs) {a b : ByteArray} (hab : a ≠ b) {q : Bool} (e : subS cs a b = q) : Calls Try.prog 9 #[.agg #[v], .string a, .string b] w fun x w' => x = .returned (.bool q) ∧ Below w.heap.size w w' := by rw [← e]; exact sub_not h a b hab
theorem super_is (h : Cl w v cs) (hs : Sm cs) {s t : ByteArray} (e : superS cs s = t) : Calls Try.prog 12 #[.agg #[v], .string s] w fun x w' => x = .returned (.string t) ∧ Below w.heap.size w w' := by rw [← e]; exact super_any h hs s
theorem find_is (h : Cl w v cs) {s : ByteArray} {i : Int} (e : findI cs s = i) : Calls Try.prog 21 #[.agg #[v], .string s] w fun x w' => x = .returned (.int .i64 i) ∧ Below w.heap.size w w' := by rw [← e]; exact kfind_any h s
theorem type_is (h : Cl w v cs) {s : ByteArray} {q : Bool} (e : typeS cs s = q) : Calls Try.prog 15 #[.agg #[v], .string s] w fun x w' => x = .returned (.bool q) ∧ Below w.heap.size w w' := by rw [← e]; exact ktype_any h s
end
def ToldC (W : World) (p1 p2 : Value) (b1 b2 : Nat) (w' : World) : Prop := Cl w' p1 csA ∧ Cl w' p2 csB ∧ w'.cell? ⟨b1, 0, none⟩ = some p1 ∧ w'.cell? ⟨b2, 0, none⟩ = some p2
set_option maxRecDepth 100000 in
set_option maxHeartbeats 8000000 in
theorem told6_any (w : World) : Calls Try.prog 8 #[] w fun e w' => e = .returned (.bool true) ∧ Below w.heap.size w w' := by
  obtain ⟨C1, hC1⟩ : ∃ C1, C1 = (hdrsV csA).toArray := ⟨_, rfl⟩
  obtain ⟨C2, hC2⟩ : ∃ C2, C2 = (hdrsV csB).toArray := ⟨_, rfl⟩
  have hF : ∀ P1 P2 : Value, P1 = .slice (some ⟨w.heap.size, 0, none⟩) 2 2 → P2 = .slice (some ⟨w.heap.size + 2, 0, none⟩) 2 2 → ∀ W, W = (((w.alloc (.cells C1 34)).alloc (.cells #[P1] 25)).alloc (.cells C2 34)).alloc (.cells #[P2] 25) →
      Below w.heap.size w W ∧ ∀ w', Below W.heap.size W w' → ToldC W P1 P2 (w.heap.size + 1) (w.heap.size + 3) w' := by
    intro P1 P2 h1 h2 W hW
    have a1 : Below w.heap.size w (w.alloc (.cells C1 34)) := (Below.refl _ _).alloc (Nat.le_refl _) _
    have x1 := Bx.new w C1 34
    generalize hw1 : w.alloc (.cells C1 34) = w1 at a1 x1 hW
    have s1 : w1.heap.size = w.heap.size + 1 := by rw [← hw1]; simp
    have a2 : Below w1.heap.size w1 (w1.alloc (.cells #[P1] 25)) := (Below.refl _ _).alloc (Nat.le_refl _) _
    have x2 := Bx.new w1 #[P1] 25
    generalize hw2 : w1.alloc (.cells #[P1] 25) = w2 at a2 x2 hW
    have s2 : w2.heap.size = w.heap.size + 2 := by rw [← hw2]; simp; omega
    have a3 : Below w2.heap.size w2 (w2.alloc (.cells C2 34)) := (Below.refl _ _).alloc (Nat.le_refl _) _
    have x3 := Bx.new w2 C2 34
    generalize hw3 : w2.alloc (.cells C2 34) = w3 at a3 x3 hW
    have s3 : w3.heap.size = w.heap.size + 3 := by rw [← hw3]; simp; omega
    have a4 : Below w3.heap.size w3 W := by rw [hW]; exact (Below.refl _ _).alloc (Nat.le_refl _) _
    have x4 : Bx W w3.heap.size #[P2] 25 := by rw [hW]; exact Bx.new _ _ _
    have y1 := ((x1.next a2).next a3).next a4
    have y2 := (x2.next a3).next a4
    have y3 := x3.next a4
    rw [s1] at y2; rw [s2] at y3; rw [s3] at x4
    refine ⟨a1.trans ((a2.trans ((a3.trans (a4.mono a3.size)).mono a2.size)).mono a1.size), fun w' hb => ?_⟩
    rw [hC1] at y1; rw [hC2] at y3
    exact ⟨by rw [h1]; exact cl_bx rfl (by decide) (y1.next hb), by rw [h2]; exact cl_bx rfl (by decide) (y3.next hb), (y2.next hb).cell 0, (x4.next hb).cell 0⟩
  obtain ⟨P1, hP1⟩ : ∃ P1 : Value, P1 = .slice (some ⟨w.heap.size, 0, none⟩) 2 2 := ⟨_, rfl⟩
  obtain ⟨P2, hP2⟩ : ∃ P2 : Value, P2 = .slice (some ⟨w.heap.size + 2, 0, none⟩) 2 2 := ⟨_, rfl⟩
  obtain ⟨W, hW⟩ : ∃ W, W = (((w.alloc (.cells C1 34)).alloc (.cells #[P1] 25)).alloc (.cells C2 34)).alloc (.cells #[P2] 25) := ⟨_, rfl⟩
  obtain ⟨hbW, hT⟩ := hF P1 P2 hP1 hP2 W hW
  have HT := Lib.hid hT
  have HBW := Lib.hid hbW
  rw [hC1, hC2, hP1, hP2] at hW
  have hW2 := Lib.hid hW
  have hb0 : Below W.heap.size W W := Below.refl _ _
  clear hF hT hW hbW hC1 hC2
  go_enter Try.func8, Try.ntmps8
  go_upto_region 3 with (fail)
  refine gen_worldK (fun x => x = W) hW2.out.symm ?_
  rintro _ rfl
  rw [← hP1, ← hP2]
  clear hW2 hP1 hP2
  obtain ⟨t1, t2, x1, x2⟩ := HT.out _ hb0
  have T1 := Lib.hid t1
  have T2 := Lib.hid t2
  clear t1 t2
  go_wp2_with fail
  refine (kchain_any T1.out sm_A nB).mono ?_
  rintro e wn ⟨vc, lc, rfl, hlc, hoc, hb⟩
  replace hb0 := hb0.trans (hb.mono hb0.size)
  obtain rfl := ch_A _ hlc
  change wn.ownsRow _ _ 1 vc 3 _ at hoc
  obtain ⟨Ac, cc, rfl, hcc⟩ := own_form hoc
  obtain ⟨gc, rfl⟩ : ∃ gc, Ac = some ⟨gc, 0, none⟩ := by
    rcases hoc.2 with ⟨e, e2⟩ | ⟨gl, c', cur, e, _⟩
    · cases e2
    · injection e with e _ _; exact ⟨gl, e⟩
  have hoc2 : wn.cell? ⟨gc, 2, none⟩ = some (.string ⟨#[69, 120, 99, 101, 112, 116, 105, 111, 110]⟩) := hoc.cellAt 2 (by decide)
  have HOC := Lib.hid hoc2
  have hbc : Below wn.heap.size wn wn := Below.refl _ _
  clear hlc hoc hoc2
  clear hb x1 x2 T1 T2
  obtain ⟨t1, t2, x1, x2⟩ := HT.out _ hb0
  have T1 := Lib.hid t1
  have T2 := Lib.hid t2
  clear t1 t2
  have x5 := KeepC.below hbc _ _ HOC.out
  go_wp2_with fail
  refine (kcheck_is T2.out ck_B).mono ?_
  rintro e wn ⟨rfl, hb⟩
  replace hb0 := hb0.trans (hb.mono hb0.size)
  replace hbc := hbc.trans (hb.mono hbc.size)
  clear hb x1 x2 T1 T2 x5
  obtain ⟨t1, t2, x1, x2⟩ := HT.out _ hb0
  have T1 := Lib.hid t1
  have T2 := Lib.hid t2
  clear t1 t2
  have x5 := KeepC.below hbc _ _ HOC.out
  go_wp2_with fail
  refine (kcheck_is (cl_bx (l := csC) rfl (by decide) (Bx.new _ _ _)) ck_C).mono ?_
  rintro e wn ⟨rfl, hb⟩
  replace hb0 := hb0.trans ((below_box hb).mono hb0.size)
  replace hbc := hbc.trans ((below_box hb).mono hbc.size)
  clear hb x1 x2 T1 T2 x5
  obtain ⟨t1, t2, x1, x2⟩ := HT.out _ hb0
  have T1 := Lib.hid t1
  have T2 := Lib.hid t2
  clear t1 t2
  have x5 := KeepC.below hbc _ _ HOC.out
  go_wp2_with fail
  refine (kcheck_is (cl_bx (l := csD) rfl (by decide) (Bx.new _ _ _)) ck_D).mono ?_
  rintro e wn ⟨rfl, hb⟩
  replace hb0 := hb0.trans ((below_box hb).mono hb0.size)
  replace hbc := hbc.trans ((below_box hb).mono hbc.size)
  clear hb x1 x2 T1 T2 x5
  obtain ⟨t1, t2, x1, x2⟩ := HT.out _ hb0
  have T1 := Lib.hid t1
  have T2 := Lib.hid t2
  clear t1 t2
  have x5 := KeepC.below hbc _ _ HOC.out
  go_wp2_with fail
  refine (kkids_any T1.out sm_A kExc).mono ?_
  rintro e wn ⟨vk, rfl, hok, hb⟩
  replace hb0 := hb0.trans (hb.mono hb0.size)
  replace hbc := hbc.trans (hb.mono hbc.size)
  rw [kd_A] at hok
  change wn.ownsRow _ _ 1 vk 2 _ at hok
  obtain ⟨Ak, ck, rfl, hck⟩ := own_form hok
  clear hok
  clear hb x1 x2 T1 T2 x5
  obtain ⟨t1, t2, x1, x2⟩ := HT.out _ hb0
  have T1 := Lib.hid t1
  have T2 := Lib.hid t2
  clear t1 t2
  have x5 := KeepC.below hbc _ _ HOC.out
  go_wp2_with fail
  refine (kcheck_is T1.out ck_A).mono ?_
  rintro e wn ⟨rfl, hb⟩
  replace hb0 := hb0.trans (hb.mono hb0.size)
  replace hbc := hbc.trans (hb.mono hbc.size)
  clear hb x1 x2 T1 T2 x5
  obtain ⟨t1, t2, x1, x2⟩ := HT.out _ hb0
  have T1 := Lib.hid t1
  have T2 := Lib.hid t2
  clear t1 t2
  have x5 := KeepC.below hbc _ _ HOC.out
  go_wp2_with fail
  refine (kbase_is bs_R).mono ?_
  rintro e wn ⟨rfl, hb⟩
  replace hb0 := hb0.trans (hb.mono hb0.size)
  replace hbc := hbc.trans (hb.mono hbc.size)
  clear hb x1 x2 T1 T2 x5
  obtain ⟨t1, t2, x1, x2⟩ := HT.out _ hb0
  have T1 := Lib.hid t1
  have T2 := Lib.hid t2
  clear t1 t2
  have x5 := KeepC.below hbc _ _ HOC.out
  go_wp2_with fail
  refine (kbase_is bs_A).mono ?_
  rintro e wn ⟨rfl, hb⟩
  replace hb0 := hb0.trans (hb.mono hb0.size)
  replace hbc := hbc.trans (hb.mono hbc.size)
  clear hb x1 x2 T1 T2 x5
  obtain ⟨t1, t2, x1, x2⟩ := HT.out _ hb0
  have T1 := Lib.hid t1
  have T2 := Lib.hid t2
  clear t1 t2
  have x5 := KeepC.below hbc _ _ HOC.out
  go_wp2_with fail
  refine (sub_is T1.out (a := nB) (b := nA) (by decide) sb_1).mono ?_
  rintro e wn ⟨rfl, hb⟩
  replace hb0 := hb0.trans (hb.mono hb0.size)
  replace hbc := hbc.trans (hb.mono hbc.size)
  clear hb x1 x2 T1 T2 x5
  obtain ⟨t1, t2, x1, x2⟩ := HT.out _ hb0
  have T1 := Lib.hid t1
  have T2 := Lib.hid t2
  clear t1 t2
  have x5 := KeepC.below hbc _ _ HOC.out
  go_wp2_with fail
  refine (sub_is T1.out (a := nA) (b := nB) (by decide) sb_2).mono ?_
  rintro e wn ⟨rfl, hb⟩
  replace hb0 := hb0.trans (hb.mono hb0.size)
  replace hbc := hbc.trans (hb.mono hbc.size)
  clear hb x1 x2 T1 T2 x5
  obtain ⟨t1, t2, x1, x2⟩ := HT.out _ hb0
  have T1 := Lib.hid t1
  have T2 := Lib.hid t2
  clear t1 t2
  have x5 := KeepC.below hbc _ _ HOC.out
  go_wp2_with fail
  refine (sub_is T1.out (a := nNull) (b := nA) (by decide) sb_3).mono ?_
  rintro e wn ⟨rfl, hb⟩
  replace hb0 := hb0.trans (hb.mono hb0.size)
  replace hbc := hbc.trans (hb.mono hbc.size)
  clear hb x1 x2 T1 T2 x5
  obtain ⟨t1, t2, x1, x2⟩ := HT.out _ hb0
  have T1 := Lib.hid t1
  have T2 := Lib.hid t2
  clear t1 t2
  have x5 := KeepC.below hbc _ _ HOC.out
  go_wp2_with fail
  refine (sub_is T1.out (a := nNull) (b := nInt) (by decide) sb_4).mono ?_
  rintro e wn ⟨rfl, hb⟩
  replace hb0 := hb0.trans (hb.mono hb0.size)
  replace hbc := hbc.trans (hb.mono hbc.size)
  clear hb x1 x2 T1 T2 x5
  obtain ⟨t1, t2, x1, x2⟩ := HT.out _ hb0
  have T1 := Lib.hid t1
  have T2 := Lib.hid t2
  clear t1 t2
  have x5 := KeepC.below hbc _ _ HOC.out
  go_wp2_with fail
  refine (super_is T1.out sm_A sp_1).mono ?_
  rintro e wn ⟨rfl, hb⟩
  replace hb0 := hb0.trans (hb.mono hb0.size)
  replace hbc := hbc.trans (hb.mono hbc.size)
  clear hb x1 x2 T1 T2 x5
  obtain ⟨t1, t2, x1, x2⟩ := HT.out _ hb0
  have T1 := Lib.hid t1
  have T2 := Lib.hid t2
  clear t1 t2
  have x5 := KeepC.below hbc _ _ HOC.out
  go_wp2_with fail
  refine (find_is T1.out fi_1).mono ?_
  rintro e wn ⟨rfl, hb⟩
  replace hb0 := hb0.trans (hb.mono hb0.size)
  replace hbc := hbc.trans (hb.mono hbc.size)
  clear hb x1 x2 T1 T2 x5
  obtain ⟨t1, t2, x1, x2⟩ := HT.out _ hb0
  have T1 := Lib.hid t1
  have T2 := Lib.hid t2
  clear t1 t2
  have x5 := KeepC.below hbc _ _ HOC.out
  go_wp2_with fail
  refine (type_is T1.out ty_1).mono ?_
  rintro e wn ⟨rfl, hb⟩
  replace hb0 := hb0.trans (hb.mono hb0.size)
  replace hbc := hbc.trans (hb.mono hbc.size)
  clear hb x1 x2 T1 T2 x5
  obtain ⟨t1, t2, x1, x2⟩ := HT.out _ hb0
  have T1 := Lib.hid t1
  have T2 := Lib.hid t2
  clear t1 t2
  have x5 := KeepC.below hbc _ _ HOC.out
  go_wp2_with fail
  refine (type_is T1.out ty_2).mono ?_
  rintro e wn ⟨rfl, hb⟩
  replace hb0 := hb0.trans (hb.mono hb0.size)
  replace hbc := hbc.trans (hb.mono hbc.size)
  clear hb x1 x2 T1 T2 x5
  go_wp2_with fail
  go_ret
  exact ⟨rfl, HBW.out.trans (hb0.mono HBW.out.size)⟩
end Go.Proofs.Ytiibneldabfokaa
