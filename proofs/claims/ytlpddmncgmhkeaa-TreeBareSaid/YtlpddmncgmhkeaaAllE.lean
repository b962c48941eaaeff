/- The document's rows of expressions: changelingref17.Exprs, All; of what is without targets each has none. -/
import Derived.Test.YtlpddmncgmhkeaaCopyA
import Derived.Test.YtlpddmncgmhkeaaRefS
import Derived.Laws.AppendOwnNone
set_option linter.unusedSimpArgs false
set_option linter.unusedVariables false
namespace Go.Proofs.Ytlpddmncgmhkeaa
open Go.RowKit
theorem append_any {P : Program} {w : World} {ops : Array Oper} {rest : List Oper} {o : Oper} {a : Act} {Q : Exit → Act → World → Prop} (hgd : o.guard = none) (s x : Operand) (t : TypeId)
    (ho : o.op = .call { callee := .builtin .append, args := #[s, x], argTypes := #[t, t] })
    (base : Nat) (e : TypeId) (i : TypeInfo) (z : Value) (size bytes : Nat) (ht : P.underlying t = some (.slice e)) (hi : P.info? e = some i) (hz : i.zero = some z)
    (hsize : i.size = size) (hby : i.bytes = bytes) (hzs : z.cells.size = size) (hsz : 0 < size)
    (v : Value) (n : Nat) (xs : List Value) (hs : a.eval s = v) (hown : w.ownsRow base e size v n xs)
    (B2 : Nat) (v2 : Value) (m : Nat) (news : List Value) (hx : a.eval x = v2) (hown2 : w.ownsRow B2 e size v2 m news) (h1 : ∀ u ∈ news, u.oneCell' = true)
    (h63 : n + m ≤ maxLen) (hbytes : (n + m) * bytes ≤ 140737488355328) (hbase : base ≤ w.heap.size)
    (h : ∀ v' w', w'.ownsRow base e size v' (n + m) (xs ++ news) → w.grownBy w' v.ownBlock → (v'.ownBlock = v.ownBlock ∨ v'.ownBlock = some w.heap.size) → wpList P ops Q rest (a.put o.dst v') w') :
    wpList P ops Q (o :: rest) a w := by
  have ho2 := hown2
  rcases hown2 with ⟨hl, ⟨rfl, rfl⟩ | ⟨g, cap, cur, rfl, _⟩⟩
  · have hn : news = [] := by simpa using hl
    subst hn
    refine wpList_append_own_none hgd s x t ho base e i size ht hi v n xs hs hown hx ?_
    exact h v w (by simpa using hown) (grown_refl w _) (.inl rfl)
  · refine wpList_append_own_at w hgd s x t ho base e i z size bytes ht hi hz hsize hby hzs hsz v n xs hs hown ⟨g, 0, none⟩ m cap news hx hl (fun j u hj => ho2.cells (g := g) rfl j u hj) h1 h63 hbytes hbase ?_
    intro v' w' a b _ c
    exact h v' w' a b c
/-- An expression without a target. -/
def EX (x : Nd) : Prop := ∃ (k n : Int) (tx nm ty : ByteArray) (A : Option Addr) (len cap : Nat) (l : List Nd), x = .ex k n tx nm ty (.slice A len cap) l ⟨#[]⟩ 0
theorem EX.of {w : World} {x : Nd} (ht : x.tag = .ex) (hk : Kd w x) (hn : NT x) : EX x := by
  cases x <;> first | (simp [Nd.tag] at ht; done) | skip
  rw [Kd] at hk
  obtain ⟨A, cap, rfl⟩ := hk.2.1.form
  cases hn with
  | mk _ h _ => obtain ⟨rfl, rfl⟩ := h; exact ⟨_, _, _, _, _, _, _, _, _, rfl⟩
theorem ex_one {es : List Nd} (h : ∀ y ∈ es, EX y) : ∀ u ∈ es.flatMap cellsN, u.oneCell' = true := by
  intro u hu
  rw [List.mem_flatMap] at hu
  obtain ⟨x, hx, hu⟩ := hu
  obtain ⟨k, n, tx, nm, ty, A, len, cap, l, rfl⟩ := h x hx
  simp only [cellsN, List.mem_cons, List.not_mem_nil, or_false] at hu
  rcases hu with rfl | rfl | rfl | rfl | rfl | rfl | rfl | rfl <;> rfl
theorem NT.kid {x y : Nd} (h : NT x) (hy : y ∈ x.kids) : NT y := by cases h with | mk _ _ k => exact k y hy
/-- A row of expressions without targets. -/
def RowE (B : Nat) (w : World) (v : Value) (n : Nat) : Prop := ∃ es : List Nd, es.length = n ∧ w.ownsRow B 41 8 v es.length (es.flatMap cellsN) ∧ ∀ y ∈ es, EX y
def RowSaid (n : Nat) (w : World) (e : Ending) (w' : World) : Prop := ∃ v', e = .returned v' ∧ RowE w.heap.size w' v' n ∧ Below w.heap.size w w'
theorem RowE.next {B n : Nat} {w w' : World} {v : Value} (h : RowE B w v n) (hb : Below w.heap.size w w') : RowE B w' v n := by
  obtain ⟨es, h1, h2, h3⟩ := h; exact ⟨es, h1, own_next h2 hb, h3⟩
theorem RowE.lt {B n : Nat} {w : World} {v : Value} (h : RowE B w v n) : ∀ k, v.ownBlock = some k → B ≤ k := by
  obtain ⟨es, h1, h2, h3⟩ := h; exact fun k hk => (h2.lt k hk).1
theorem RowE.of {B n m : Nat} {w : World} {v : Value} {es fs : List Nd} (h1 : es.length = n) (h2 : fs.length = m) (h : w.ownsRow B 41 8 v (n + m) (es.flatMap cellsN ++ fs.flatMap cellsN)) (he : ∀ y ∈ es, EX y) (hf : ∀ y ∈ fs, EX y) : RowE B w v (n + m) := by
  refine ⟨es ++ fs, by simp [h1, h2], by rw [List.length_append, h1, h2, List.flatMap_append]; exact h, fun y hy => ?_⟩
  rcases List.mem_append.1 hy with hy | hy
  · exact he y hy
  · exact hf y hy
theorem RowE.said {n : Nat} {w w' : World} {v : Value} {B : Nat} (h : RowE B w' v n) (hB : w.heap.size ≤ B) (hb : Below w.heap.size w w') : RowSaid n w (.returned v) w' := by
  obtain ⟨es, h1, h2, h3⟩ := h; exact ⟨v, rfl, ⟨es, h1, own_mono h2 hB, h3⟩, hb⟩
theorem row_lit (W : World) (B b : Nat) (k n : Int) (tx nm ty : ByteArray) (A : Option Addr) (m cap : Nat) (l : List Nd) (hB : B ≤ W.heap.size) (hb : b = W.heap.size) :
    RowE B (W.alloc (.cells #[.int .i64 k, .int .i32 n, .string tx, .string nm, .string ty, .slice A m cap, .string ⟨#[]⟩, .int .i64 0] 41)) (.slice (some ⟨b, 0, none⟩) 1 1) 1 := by
  subst hb
  refine ⟨[.ex k n tx nm ty (.slice A m cap) l ⟨#[]⟩ 0], rfl, ?_, fun y hy => by simp at hy; exact ⟨_, _, _, _, _, _, _, _, _, hy⟩⟩
  have := World.ownsRow_lit (base := B) (e := 41) (size := 8) W #[.int .i64 k, .int .i32 n, .string tx, .string nm, .string ty, .slice A m cap, .string ⟨#[]⟩, .int .i64 0] 1 hB (by unfold maxLen; omega) (by simp)
  simpa [cellsN] using this
def ExprsOf (s : Nat) : Prop := ∀ (w : World) (k n : Int) (tx nm ty : ByteArray) (nv : Value) (l : List Nd), Kd w (.ex k n tx nm ty nv l ⟨#[]⟩ 0) → (∀ y ∈ l, NT y) → (Nd.ex k n tx nm ty nv l ⟨#[]⟩ 0).size ≤ s →
  Calls Try.prog 29 #[.agg #[.int .i64 k, .int .i32 n, .string tx, .string nm, .string ty, nv, .string ⟨#[]⟩, .int .i64 0]] w (RowSaid (Nd.ex k n tx nm ty nv l ⟨#[]⟩ 0).size w)
set_option maxRecDepth 100000 in
set_option maxHeartbeats 2000000 in
theorem exprs_row : ∀ s, s ≤ 1000000 → ExprsOf s := by
  intro s
  induction s using Nat.strongRecOn with
  | ind s ih =>
    intro hs w k n tx nm ty nv l hk hnt hle
    have hsz : (Nd.ex k n tx nm ty nv l ⟨#[]⟩ 0).size = 1 + sizeL l := by simp [Nd.size]
    rw [hsz] at hle ⊢
    rw [Kd] at hk
    obtain ⟨A, cap, rfl⟩ := hk.2.1.form
    obtain ⟨m, hm⟩ : ∃ m, l.length = m := ⟨_, rfl⟩
    have hml : m ≤ sizeL l := by rw [← hm]; exact len_sizeL l
    obtain ⟨i0, hi, hz0, hz1, hz2⟩ := info_parts Try.infoOfExpr
    have HR := Lib.hid hk.2.1; have HK := Lib.hid hk.2.2; have HNT := Lib.hid hnt; have HLN := Lib.hid hm
    rw [hm] at HR ⊢
    clear hk hnt hsz hm
    go_enter Try.func29, Try.ntmps29
    go_wp2_with fail
    refine gen_world (fun W => Bx W w.heap.size #[.int .i64 k, .int .i32 n, .string tx, .string nm, .string ty, .slice A m cap, .string ⟨#[]⟩, .int .i64 0] 41 ∧ Below w.heap.size w W ∧ RowE (w.heap.size + 1) W (.slice (some ⟨w.heap.size + 1, 0, none⟩) 1 1) 1) ?_ ?_
    · exact ⟨(Bx.new _ _ _).next ((Below.refl _ _).alloc (Nat.le_refl _) _), ((Below.refl _ w).alloc (Nat.le_refl _) _).alloc (by simp) _, row_lit _ _ _ k n tx nm ty A m cap l (by simp) (by simp)⟩
    · rintro W ⟨hx, hW, hrow⟩
      have HX := Lib.hid hx; have HW := Lib.hid hW; have HROW := Lib.hid hrow
      have hlt := hx.lt
      clear hx hW hrow
      go_loopw [3, 4] (fun v3 v4 wr => ∃ j : Nat, v4 = .int .i64 j ∧ j ≤ m ∧ RowE (w.heap.size + 1) wr v3 (1 + sizeL (l.take j)) ∧ Below (w.heap.size + 1) W wr) (fun v3 v4 wr => m - (intOf v4).toNat)
      case atStart => exact ⟨0, rfl, Nat.zero_le _, by simpa [sizeL] using HROW.out, Below.refl _ _⟩
      case round =>
        obtain ⟨j, rfl, hjm, hrw, hB⟩ := hrel
        obtain ⟨es, hes, hown, hex⟩ := hrw
        have hbox := HX.out.below hB (Nat.lt_succ_self _)
        have b5 := hbox.cell 5
        simp only [List.getElem?_toArray, List.getElem?_cons_succ, List.getElem?_cons_zero] at b5
        have hBw : Below w.heap.size w wr := HW.out.trans (hB.mono (Nat.le_succ _))
        have hWs := HW.out.size
        have hBs := hB.size
        have K := Keep.below hBw
        clear hbox
        by_cases hlt2 : j < m
        · obtain ⟨b, o, x, rfl, hx, hxt, hc⟩ := (HR.out.keep K).get hlt2
          have hxk := KdL.mem_get (KdL.keep K _ HK.out) hx
          have hxn : NT x := HNT.out x (List.mem_of_getElem? hx)
          cases x <;> first | (simp [Nd.tag] at hxt; done) | skip
          rename_i xk xn xtx xnm xty xv xl xown xnth
          obtain ⟨rfl, rfl⟩ : xown = ⟨#[]⟩ ∧ xnth = 0 := by cases hxn with | mk _ h _ => exact h
          have c0 := hc 0 _ rfl; have c1 := hc 1 _ rfl; have c2 := hc 2 _ rfl; have c3 := hc 3 _ rfl; have c4 := hc 4 _ rfl; have c5 := hc 5 _ rfl; have c6 := hc 6 _ rfl; have c7 := hc 7 _ rfl
          simp only [Tg.sz, Nat.add_zero] at c0 c1 c2 c3 c4 c5 c6 c7
          have hz := sizeL_take_succ hx
          have hle2 := sizeL_take_le l (j + 1)
          have HX1 := Lib.hid (ih (Nd.ex xk xn xtx xnm xty xv xl ⟨#[]⟩ 0).size (by omega) (by omega) wr xk xn xtx xnm xty xv xl hxk (fun y hy => hxn.kid hy) (Nat.le_refl _))
          obtain ⟨q, hq⟩ : ∃ q, (Nd.ex xk xn xtx xnm xty xv xl ⟨#[]⟩ 0).size = q := ⟨_, rfl⟩
          rw [hq] at HX1 hz
          rw [Kd] at hxk
          obtain ⟨xA, xcap, rfl⟩ := hxk.2.1.form
          have HZ := Lib.hid hz
          have hlen : es.length + q ≤ 1000000 := by omega
          clear hc hxk hx hxt hxn K ih hq hz hle2
          go_wp2_with (first | (go_at_call 29; refine HX1.out.mono ?_; clear HX1; rintro e w1 ⟨v', rfl, ⟨es2, hes2, ho2, hex2⟩, hb⟩) | (at_builtin; refine append_any rfl (.tmp 14) (.tmp 20) 34 rfl (w.heap.size + 1) 41 i0 _ 8 112 Try.underlying34 hi hz0 hz1 hz2 rfl (by decide) _ _ _ rfl (own_next hown hb) wr.heap.size _ _ _ rfl ho2 (ex_one hex2) ?c3 ?c4 ?c5 ?_))
          case c3 => unfold maxLen; omega
          case c4 => omega
          case c5 => have := hb.size; omega
          · intro v2 w2 hown2 hgrow hat
            have HN := Lib.hid (RowE.of hes hes2 hown2 hex hex2)
            have HB2 := Lib.hid ((hB.trans (hb.mono (by omega))).grown hgrow (by have := hb.size; omega) (fun k hk => (hown.lt k hk).1))
            have hcnt : 1 + sizeL (l.take j) + q = 1 + sizeL (l.take (j + 1)) := by rw [HZ.out]; omega
            rw [hcnt] at HN
            clear hown2 hgrow hat hb hown hex2 ho2 hex hB hBw
            go_wp2_with fail
            go_roundw
            case rel => exact ⟨j + 1, by go_num, by omega, HN.out, HB2.out⟩
            case measure => simp [intOf]; omega
        · have hkl : l.take j = l := List.take_of_length_le (by rw [HLN.out]; omega)
          rw [hkl] at hes
          have HD := Lib.hid (RowE.said ⟨es, hes, hown, hex⟩ (Nat.le_succ _) hBw)
          clear ih hkl hown hex hes K hB hBw
          go_wp2_with fail
          go_ret
          exact HD.out
def AllSaid (s : Nat) (w : World) (e : Ending) (w' : World) : Prop := ∃ v' n, e = .returned v' ∧ n ≤ s ∧ RowE w.heap.size w' v' n ∧ Below w.heap.size w w'
theorem RowE.all {s n : Nat} {w w' : World} {v : Value} (h : RowE w.heap.size w' v n) (hn : n ≤ s) (hb : Below w.heap.size w w') : AllSaid s w (.returned v) w' := ⟨v, n, rfl, hn, h, hb⟩
def AllOf (s : Nat) : Prop := ∀ (w : World) (v : Value) (l : List Nd), sizeL l ≤ s → Rw w .st v l → KdL w l → (∀ y ∈ l, NT y) → Calls Try.prog 12 #[v] w (AllSaid (sizeL l) w)
set_option maxRecDepth 100000 in
set_option maxHeartbeats 4000000 in
theorem all_row : ∀ s, s ≤ 1000000 → AllOf s := by
  intro s
  induction s using Nat.strongRecOn with
  | ind s ih =>
    intro hs w v l hl hr hk hnt
    obtain ⟨A, cap, rfl⟩ := hr.form
    obtain ⟨n, hn⟩ : ∃ n, l.length = n := ⟨_, rfl⟩
    have hm : n ≤ 1000000 := by have := len_sizeL l; omega
    obtain ⟨i0, hi, hz0, hz1, hz2⟩ := info_parts Try.infoOfExpr
    rw [hn] at hr ⊢
    have HR := Lib.hid hr; have HK := Lib.hid hk; have HLN := Lib.hid hn; have HNT := Lib.hid hnt
    clear hr hk hn hnt
    go_enter Try.func12, Try.ntmps12
    go_wp2
    go_loopw [3, 4] (fun v3 v4 wr => ∃ i cnt : Nat, v4 = .int .i64 i ∧ i ≤ n ∧ RowE w.heap.size wr v3 cnt ∧ cnt ≤ sizeL (l.take i) ∧ Below w.heap.size w wr) (fun v3 v4 wr => n - (intOf v4).toNat)
    case atStart => exact ⟨0, 0, rfl, Nat.zero_le _, ⟨[], rfl, World.ownsRow_nil _ _ _ _, by simp⟩, Nat.zero_le _, Below.refl _ _⟩
    case round =>
      obtain ⟨i, cnt, rfl, hin, hrw, hcnt, hB⟩ := hrel
      by_cases hlt : i < n
      · obtain ⟨b, o, x, rfl, hx, hxt, hc⟩ := HR.out.get hlt
        have hxk := KdL.mem_get HK.out hx
        have hxn : NT x := HNT.out x (List.mem_of_getElem? hx)
        cases x <;> first | (simp [Nd.tag] at hxt; done) | skip
        rename_i xk xn xty xnm ve va vb vc e a b' c nth
        have hz := sizeL_take_succ hx
        have hle := sizeL_take_le l (i + 1)
        have hsz : (Nd.st xk xn xty xnm ve va vb vc e a b' c nth).size = 1 + (sizeL e + sizeL a + sizeL b' + sizeL c) := by simp [Nd.size]
        rw [hsz] at hz
        rw [Kd] at hxk
        have HC : Hid (∀ w', Below w.heap.size w w' → w'.cell? ⟨b, o + i * 9 + 4, none⟩ = some ve ∧ w'.cell? ⟨b, o + i * 9 + 5, none⟩ = some va ∧ w'.cell? ⟨b, o + i * 9 + 6, none⟩ = some vb ∧ w'.cell? ⟨b, o + i * 9 + 7, none⟩ = some vc) := by
          show ∀ w', _
          intro w' hb
          exact ⟨Keep.below hb _ _ (hc 4 _ rfl), Keep.below hb _ _ (hc 5 _ rfl), Keep.below hb _ _ (hc 6 _ rfl), Keep.below hb _ _ (hc 7 _ rfl)⟩
        have hne : ∀ y ∈ e, NT y := fun y hy => hxn.kid (by simp [Nd.kids, hy])
        have HE : Hid (∀ w', Below w.heap.size w w' → Rw w' .ex ve e ∧ KdL w' e ∧ ∀ y ∈ e, NT y) := by
          show ∀ w', _
          intro w' hb; exact ⟨hxk.2.1.1.keep (Keep.below hb), KdL.keep (Keep.below hb) _ hxk.2.1.2, hne⟩
        have HXA : Hid (∀ w', Below w.heap.size w w' → Calls Try.prog 12 #[va] w' (AllSaid (sizeL a) w')) := by
          show ∀ w', _
          intro w' hb; exact ih (sizeL a) (by omega) (by omega) w' va a (Nat.le_refl _) (hxk.2.2.1.1.keep (Keep.below hb)) (KdL.keep (Keep.below hb) _ hxk.2.2.1.2) (fun y hy => hxn.kid (by simp [Nd.kids, hy]))
        have HXB : Hid (∀ w', Below w.heap.size w w' → Calls Try.prog 12 #[vb] w' (AllSaid (sizeL b') w')) := by
          show ∀ w', _
          intro w' hb; exact ih (sizeL b') (by omega) (by omega) w' vb b' (Nat.le_refl _) (hxk.2.2.2.1.1.keep (Keep.below hb)) (KdL.keep (Keep.below hb) _ hxk.2.2.2.1.2) (fun y hy => hxn.kid (by simp [Nd.kids, hy]))
        have HXC : Hid (∀ w', Below w.heap.size w w' → Calls Try.prog 12 #[vc] w' (AllSaid (sizeL c) w')) := by
          show ∀ w', _
          intro w' hb; exact ih (sizeL c) (by omega) (by omega) w' vc c (Nat.le_refl _) (hxk.2.2.2.2.1.keep (Keep.below hb)) (KdL.keep (Keep.below hb) _ hxk.2.2.2.2.2) (fun y hy => hxn.kid (by simp [Nd.kids, hy]))
        obtain ⟨Ae, ce, rfl⟩ := hxk.2.1.1.form
        obtain ⟨Aa, ca, rfl⟩ := hxk.2.2.1.1.form
        obtain ⟨Ab, cb, rfl⟩ := hxk.2.2.2.1.1.form
        obtain ⟨Ac, cc, rfl⟩ := hxk.2.2.2.2.1.form
        obtain ⟨en, hen⟩ : ∃ q, e.length = q := ⟨_, rfl⟩
        have hem : en ≤ 1000000 := by have := len_sizeL e; omega
        rw [hen] at HC HE
        have HEN := Lib.hid hen
        have HZ := Lib.hid hz
        have hcs : sizeL (l.take i) + (1 + (sizeL e + sizeL a + sizeL b' + sizeL c)) ≤ 1000000 := by omega
        obtain ⟨se, hse⟩ : ∃ q, sizeL e = q := ⟨_, rfl⟩
        obtain ⟨sa, hsa⟩ : ∃ q, sizeL a = q := ⟨_, rfl⟩
        obtain ⟨sb, hsb⟩ : ∃ q, sizeL b' = q := ⟨_, rfl⟩
        obtain ⟨sc, hsc⟩ : ∃ q, sizeL c = q := ⟨_, rfl⟩
        obtain ⟨si, hsi⟩ : ∃ q, sizeL (l.take i) = q := ⟨_, rfl⟩
        rw [hsa] at HXA; rw [hsb] at HXB; rw [hsc] at HXC
        rw [hse, hsa, hsb, hsc, hsi] at HZ hcs
        rw [hsi] at hcnt
        have HSE := Lib.hid hse
        clear hc hxk hx hsz hxt ih hle hne hxn hz hen hsa hsb hsc hsi hse
        go_wp2_with fail
        go_loopw [3, 5] (fun v3 v5 wx => ∃ j c2 : Nat, v5 = .int .i64 j ∧ j ≤ en ∧ RowE w.heap.size wx v3 c2 ∧ c2 ≤ si + sizeL (e.take j) ∧ Below w.heap.size w wx) (fun v3 v5 wx => en - (intOf v5).toNat)
        case atStart => exact ⟨0, cnt, rfl, Nat.zero_le _, hrw, by simpa [sizeL] using hcnt, hB⟩
        case round =>
          obtain ⟨j, c2, rfl, hje, ⟨es, hes, hown, hex⟩, hc2, hBx⟩ := hrel
          obtain ⟨d4, d5, d6, d7⟩ := HC.out _ hBx
          have hBs := hBx.size
          clear hrw hB hcnt
          by_cases hj : j < en
          · obtain ⟨hre, hke, hne⟩ := HE.out _ hBx
            obtain ⟨b1, o1, y, rfl, hy, hyt, hcy⟩ := hre.get hj
            have hyk := KdL.mem_get hke hy
            have hyn : NT y := hne y (List.mem_of_getElem? hy)
            cases y <;> first | (simp [Nd.tag] at hyt; done) | skip
            rename_i yk yn ytx ynm yty yv yl yown ynth
            obtain ⟨rfl, rfl⟩ : yown = ⟨#[]⟩ ∧ ynth = 0 := by cases hyn with | mk _ h _ => exact h
            have c0 := hcy 0 _ rfl; have c1 := hcy 1 _ rfl; have c2' := hcy 2 _ rfl; have c3 := hcy 3 _ rfl; have c4 := hcy 4 _ rfl; have c5 := hcy 5 _ rfl; have c6 := hcy 6 _ rfl; have c7 := hcy 7 _ rfl
            simp only [Tg.sz, Nat.add_zero] at c0 c1 c2' c3 c4 c5 c6 c7
            have hz1 := sizeL_take_succ hy
            have hle1 := sizeL_take_le e (j + 1)
            rw [HSE.out] at hle1
            have HX1 := Lib.hid (exprs_row (Nd.ex yk yn ytx ynm yty yv yl ⟨#[]⟩ 0).size (by omega) wr yk yn ytx ynm yty yv yl hyk (fun z hz => hyn.kid hz) (Nat.le_refl _))
            obtain ⟨q, hq⟩ : ∃ q, (Nd.ex yk yn ytx ynm yty yv yl ⟨#[]⟩ 0).size = q := ⟨_, rfl⟩
            rw [hq] at HX1 hz1
            rw [Kd] at hyk
            obtain ⟨yA, ycap, rfl⟩ := hyk.2.1.form
            have HCN := Lib.hid (show c2 + q ≤ si + sizeL (e.take (j + 1)) by omega)
            have hlen : es.length + q ≤ 1000000 := by omega
            clear hcy hyk hy hyt hyn hq hz1 hle1 hre hke hne
            go_wp2_with (first | (go_at_call 29; refine HX1.out.mono ?_; clear HX1; rintro r w1 ⟨v', rfl, ⟨es2, hes2, ho2, hex2⟩, hb⟩) | (at_builtin; refine append_any rfl (.tmp 22) (.tmp 31) 34 rfl w.heap.size 41 i0 _ 8 112 Try.underlying34 hi hz0 hz1 hz2 rfl (by decide) _ _ _ rfl (own_next hown hb) wr.heap.size _ _ _ rfl ho2 (ex_one hex2) ?c3 ?c4 ?c5 ?_))
            case c3 => unfold maxLen; omega
            case c4 => omega
            case c5 => have := hb.size; omega
            · intro v2 w2 hown2 hgrow hat
              have HN := Lib.hid (RowE.of hes hes2 hown2 hex hex2)
              have HB2 := Lib.hid ((hBx.trans (hb.mono hBs)).grown hgrow (by have := hb.size; omega) (fun k hk => (hown.lt k hk).1))
              clear hown2 hgrow hat hb hown hex2 ho2 hex hBx
              go_wp2_with fail
              go_roundw
              case rel => exact ⟨j + 1, _, by go_num, by omega, HN.out, HCN.out, HB2.out⟩
              case measure => simp [intOf]; omega
          · have hkl : e.take j = e := List.take_of_length_le (by rw [HEN.out]; omega)
            rw [hkl, HSE.out] at hc2
            clear hkl HE
            go_wp2_with (first | (go_at_call 12; refine (HXA.out _ hBx).mono ?_; clear HXA; rintro r w1 ⟨v1, n1, rfl, hn1, ⟨es1, hes1, ho1, hex1⟩, hb1⟩) | (at_builtin; refine append_any rfl (.tmp 33) (.tmp 39) 34 rfl w.heap.size 41 i0 _ 8 112 Try.underlying34 hi hz0 hz1 hz2 rfl (by decide) _ _ _ rfl (own_next hown hb1) wr.heap.size _ _ _ rfl ho1 (ex_one hex1) ?c3 ?c4 ?c5 ?_))
            case c3 => unfold maxLen; omega
            case c4 => omega
            case c5 => have := hb1.size; omega
            intro v2 w2 hown2 hgrow hat
            have hB2 := (hBx.trans (hb1.mono hBs)).grown hgrow (by have := hb1.size; omega) (fun k hk => (hown.lt k hk).1)
            obtain ⟨es2, hes2, hown2, hex2⟩ := RowE.of hes hes1 hown2 hex hex1
            have hBs2 := hB2.size
            clear hgrow hat hb1 hown ho1 hex1 hex hBx d4 d5 d6 d7
            obtain ⟨d4, d5, d6, d7⟩ := HC.out _ hB2
            go_wp2_with (first | (go_at_call 12; refine (HXB.out _ hB2).mono ?_; clear HXB; rintro r w3 ⟨v3', n3, rfl, hn3, ⟨es3, hes3, ho3, hex3⟩, hb3⟩) | (at_builtin; refine append_any rfl (.tmp 41) (.tmp 47) 34 rfl w.heap.size 41 i0 _ 8 112 Try.underlying34 hi hz0 hz1 hz2 rfl (by decide) _ _ _ rfl (own_next hown2 hb3) w2.heap.size _ _ _ rfl ho3 (ex_one hex3) ?e3 ?e4 ?e5 ?_))
            case e3 => unfold maxLen; omega
            case e4 => omega
            case e5 => have := hb3.size; omega
            intro v4 w4 hown4 hgrow hat
            have hB4 := (hB2.trans (hb3.mono hBs2)).grown hgrow (by have := hb3.size; omega) (fun k hk => (hown2.lt k hk).1)
            obtain ⟨es4, hes4, hown4, hex4⟩ := RowE.of hes2 hes3 hown4 hex2 hex3
            have hBs4 := hB4.size
            clear hgrow hat hb3 hown2 ho3 hex3 hex2 hB2 d4 d5 d6 d7
            obtain ⟨d4, d5, d6, d7⟩ := HC.out _ hB4
            go_wp2_with (first | (go_at_call 12; refine (HXC.out _ hB4).mono ?_; clear HXC; rintro r w5 ⟨v5', n5, rfl, hn5, ⟨es5, hes5, ho5, hex5⟩, hb5⟩) | (at_builtin; refine append_any rfl (.tmp 49) (.tmp 55) 34 rfl w.heap.size 41 i0 _ 8 112 Try.underlying34 hi hz0 hz1 hz2 rfl (by decide) _ _ _ rfl (own_next hown4 hb5) w4.heap.size _ _ _ rfl ho5 (ex_one hex5) ?g3 ?g4 ?g5 ?_))
            case g3 => unfold maxLen; omega
            case g4 => omega
            case g5 => have := hb5.size; omega
            intro v6 w6 hown6 hgrow hat
            have HB6 := Lib.hid ((hB4.trans (hb5.mono hBs4)).grown hgrow (by have := hb5.size; omega) (fun k hk => (hown4.lt k hk).1))
            have HN6 := Lib.hid (RowE.of hes4 hes5 hown6 hex4 hex5)
            have HCN := Lib.hid (show c2 + n1 + n3 + n5 ≤ sizeL (l.take (i + 1)) by rw [HZ.out]; omega)
            clear hgrow hat hb5 hown4 ho5 hex5 hex4 hB4 d4 d5 d6 d7 hown6
            go_wp2_with fail
            go_roundw
            case rel => exact ⟨i + 1, _, by go_num, by omega, HN6.out, HCN.out, HB6.out⟩
            case measure => simp [intOf]; omega
      · have hkl : l.take i = l := List.take_of_length_le (by rw [HLN.out]; omega)
        rw [hkl] at hcnt
        have HD := Lib.hid (RowE.all hrw hcnt hB)
        clear ih hkl hrw hcnt
        go_wp2
        go_ret
        exact HD.out
end Go.Proofs.Ytlpddmncgmhkeaa
