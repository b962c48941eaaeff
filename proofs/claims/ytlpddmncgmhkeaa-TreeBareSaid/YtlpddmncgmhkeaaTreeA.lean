/- Contracts of tree.add at its five types. Written by wip/tools/gen_tree_add.py. -/
import Derived.Test.YtlpddmncgmhkeaaTree
import Derived.BigCall
set_option linter.unusedSimpArgs false
set_option linter.unusedVariables false
namespace Go.Proofs.Ytlpddmncgmhkeaa
open Go.RowKit

theorem Try.infoPart : (Try.prog.info? 71).map (fun i => (i.zero, i.size, i.bytes)) = some (some .nilIface, 1, 16) := by kernel_rfl
def AddSaid (w : World) (B : Nat) (v : Value) (qs : List Pt) (e : Ending) (w' : World) : Prop :=
  ∃ v', e = .returned v' ∧ w'.ownsRow B 71 1 v' qs.length (qs.map ptV) ∧ Grew w w' v v'
/-- The row as the loop has it. -/
def Half (w : World) (B : Nat) (v : Value) (m : Nat) (xs ys : List Value) (k : Nat) (v1 : Value) (wr : World) : Prop :=
  wr.ownsRow B 71 1 v1 (m + k) (xs ++ ys.take k) ∧ Grew w wr v v1
theorem Half.start {w : World} {B m : Nat} {v : Value} {xs ys : List Value} (h : w.ownsRow B 71 1 v m xs) : Half w B v m xs ys 0 v w := ⟨by simpa using h, Grew.refl _ _⟩
theorem Half.more {w wr w' : World} {B m : Nat} {v v1 v' : Value} {xs ys : List Value} {k : Nat} {o : Obj} {u : Value} (h : Half w B v m xs ys k v1 wr) (hq : ys[k]? = some u)
    (ho : w'.ownsRow B 71 1 v' (m + k + 1) (xs ++ (ys.take k ++ [u]))) (hg : (wr.alloc o).grownBy w' v1.ownBlock) (hat : v'.ownBlock = v1.ownBlock ∨ v'.ownBlock = some (wr.heap.size + 1)) : Half w B v m xs ys (k + 1) v' w' := by
  have hat : v'.ownBlock = v1.ownBlock ∨ v'.ownBlock = some (wr.alloc o).heap.size := by simpa using hat
  refine ⟨?_, (h.2.trans (Grew.alloc wr v1 o)).trans (Grew.of_append hg hat)⟩
  have : ys.take (k + 1) = ys.take k ++ [u] := by
    rw [List.take_add_one, hq]; simp
  rw [this, ← Nat.add_assoc]; exact ho
theorem Half.done {w wr : World} {B m : Nat} {v v1 : Value} {xs ys : List Value} {ps qs : List Pt} {k n : Nat} (h : Half w B v m xs ys k v1 wr) (hk : ¬ k < n) (hkn : k ≤ n) (hn : qs.length = n) (hx : xs = ps.map ptV) (hm : m = ps.length) (hy : ys = qs.map ptV) : AddSaid w B v (ps ++ qs) (.returned v1) wr := by
  have : k = qs.length := by omega
  subst this
  refine ⟨v1, rfl, ?_, h.2⟩
  have h1 := h.1
  have h2 : ys.take qs.length = ys := List.take_of_length_le (by rw [hy]; simp)
  rw [h2, hx, hy, hm] at h1
  rw [List.length_append, List.map_append]; exact h1
theorem Rw.at {w : World} {t : Tg} {A : Option Addr} {n cap : Nat} {l : List Nd} (h : Rw w t (.slice A n cap) l) : l.length = n ∧ ∀ k, k < n → ∃ b o x, A = some ⟨b, o, none⟩ ∧ l[k]? = some x ∧ x.tag = t ∧ (ptsV t (.slice A n cap) l)[k]? = some ⟨b, o + k * t.sz, x⟩ := by
  obtain ⟨A', cap', hv, _, ht, hc⟩ := h
  injection hv with h1 h2 h3
  refine ⟨h2.symm, fun k hk => ?_⟩
  obtain ⟨b, o, hA, hcell⟩ := hc (by omega)
  have hl : k < l.length := by omega
  refine ⟨b, o, l[k], h1.trans hA, List.getElem?_eq_getElem hl, ht _ (List.getElem_mem hl), ?_⟩
  rw [h1, hA]
  simp only [ptsV]
  rw [pts_get, List.getElem?_eq_getElem hl]; rfl
theorem Rw.form {w : World} {t : Tg} {v : Value} {l : List Nd} (h : Rw w t v l) : ∃ A cap, v = .slice A l.length cap := by
  obtain ⟨A, cap, hv, _⟩ := h; exact ⟨A, cap, hv⟩
set_option maxRecDepth 100000 in
set_option maxHeartbeats 1000000 in
theorem add_ex (w : World) (B : Nat) (v : Value) (ps : List Pt) (nv : Value) (l : List Nd) (hB : B ≤ w.heap.size) (hown : w.ownsRow B 71 1 v ps.length (ps.map ptV)) (hr : Rw w .ex nv l) (hs : ps.length + l.length ≤ 1000000) :
    Calls Try.prog 48 #[v, nv] w (AddSaid w B v (ps ++ ptsV .ex nv l)) := by
  obtain ⟨A, cap, hv⟩ := hr.form
  have hlen := ptsV_len hr
  subst hv
  obtain ⟨n, hn⟩ : ∃ n, l.length = n := ⟨_, rfl⟩
  rw [hn] at hr hlen hs ⊢
  obtain ⟨qs, hqs⟩ : ∃ qs, ptsV .ex (.slice A n cap) l = qs := ⟨_, rfl⟩
  rw [hqs] at hlen ⊢
  have HAT := Lib.hid hr.at
  obtain ⟨xs, hxs⟩ : ∃ xs, xs = ps.map ptV := ⟨_, rfl⟩
  obtain ⟨ys, hys⟩ : ∃ ys, ys = qs.map ptV := ⟨_, rfl⟩
  obtain ⟨m, hm⟩ : ∃ m, m = ps.length := ⟨_, rfl⟩
  rw [← hxs, ← hm] at hown
  rw [← hm] at hs
  have H0 : Half w B v m xs ys 0 v w := Half.start hown
  have HXS := Lib.hid hxs
  have HYS := Lib.hid hys
  have HM0 := Lib.hid hm
  have HLEN := Lib.hid hlen
  have HQS := Lib.hid hqs
  clear hlen hqs hn hr hown hxs hys hm
  obtain ⟨i0, hi, hz0, hz1, hz2⟩ := info_parts Try.infoPart
  go_enter Try.func48, Try.ntmps48
  go_wp2
  go_loopw [0, 8] (fun v0 v8 wr => ∃ (k : Nat) (v1 : Value), v0 = v1 ∧ v8 = .int .i64 k ∧ k ≤ n ∧ Half w B v m xs ys k v1 wr) (fun v0 v8 wr => n - (intOf v8).toNat)
  case atStart => exact ⟨0, v, rfl, rfl, Nat.zero_le _, H0⟩
  case round =>
    obtain ⟨k, v1, rfl, rfl, hk, hh⟩ := hrel
    clear H0
    by_cases hlt : k < n
    · obtain ⟨_, hat⟩ := HAT.out
      obtain ⟨b, o, x, rfl, hx, hxt, hp⟩ := hat k hlt
      clear hat
      rw [HQS.out] at hp
      have hpv : ys[k]? = some (.iface 67 (.pointer (some ⟨b, o + k * 8, none⟩))) := by rw [HYS.out, List.getElem?_map, hp]; simp only [Option.map_some, ptV]; rw [hxt]; rfl
      have HP := Lib.hid hpv
      clear hp hx hxt hpv
      go_wp2_with (at_builtin; refine wpList_append_own_at _ rfl (.tmp 11) (.tmp 16) 56 rfl B 71 i0 _ 1 16 Try.underlying56 hi hz0 hz1 hz2 rfl (by decide) _ _ _ rfl (hh.1.alloc _) ⟨wr.heap.size, 0, none⟩ 1 1 [.iface 67 (.pointer (some ⟨b, o + k * 8, none⟩))] rfl rfl ?c1 ?c2 ?c3 ?c4 ?c5 ?_)
      case c1 => exact cell_one_new _ _ _
      case c2 => intro u hu; simp at hu; subst hu; rfl
      case c3 => unfold maxLen; omega
      case c4 => omega
      case c5 => have := hh.2.size; simp; omega
      · intro v' w3 hown3 hgrow _ hat3
        have HM := Half.more hh HP.out hown3 hgrow hat3
        clear hown3 hgrow hat3 hh
        go_wp2
        go_roundw
        case rel => exact ⟨k + 1, v', rfl, by go_num, by omega, HM⟩
        case measure => simp [intOf]; omega
    · go_wp2
      go_ret
      exact hh.done hlt hk HLEN.out HXS.out HM0.out HYS.out
set_option maxRecDepth 100000 in
set_option maxHeartbeats 1000000 in
theorem add_st (w : World) (B : Nat) (v : Value) (ps : List Pt) (nv : Value) (l : List Nd) (hB : B ≤ w.heap.size) (hown : w.ownsRow B 71 1 v ps.length (ps.map ptV)) (hr : Rw w .st nv l) (hs : ps.length + l.length ≤ 1000000) :
    Calls Try.prog 30 #[v, nv] w (AddSaid w B v (ps ++ ptsV .st nv l)) := by
  obtain ⟨A, cap, hv⟩ := hr.form
  have hlen := ptsV_len hr
  subst hv
  obtain ⟨n, hn⟩ : ∃ n, l.length = n := ⟨_, rfl⟩
  rw [hn] at hr hlen hs ⊢
  obtain ⟨qs, hqs⟩ : ∃ qs, ptsV .st (.slice A n cap) l = qs := ⟨_, rfl⟩
  rw [hqs] at hlen ⊢
  have HAT := Lib.hid hr.at
  obtain ⟨xs, hxs⟩ : ∃ xs, xs = ps.map ptV := ⟨_, rfl⟩
  obtain ⟨ys, hys⟩ : ∃ ys, ys = qs.map ptV := ⟨_, rfl⟩
  obtain ⟨m, hm⟩ : ∃ m, m = ps.length := ⟨_, rfl⟩
  rw [← hxs, ← hm] at hown
  rw [← hm] at hs
  have H0 : Half w B v m xs ys 0 v w := Half.start hown
  have HXS := Lib.hid hxs
  have HYS := Lib.hid hys
  have HM0 := Lib.hid hm
  have HLEN := Lib.hid hlen
  have HQS := Lib.hid hqs
  clear hlen hqs hn hr hown hxs hys hm
  obtain ⟨i0, hi, hz0, hz1, hz2⟩ := info_parts Try.infoPart
  go_enter Try.func30, Try.ntmps30
  go_wp2
  go_loopw [0, 8] (fun v0 v8 wr => ∃ (k : Nat) (v1 : Value), v0 = v1 ∧ v8 = .int .i64 k ∧ k ≤ n ∧ Half w B v m xs ys k v1 wr) (fun v0 v8 wr => n - (intOf v8).toNat)
  case atStart => exact ⟨0, v, rfl, rfl, Nat.zero_le _, H0⟩
  case round =>
    obtain ⟨k, v1, rfl, rfl, hk, hh⟩ := hrel
    clear H0
    by_cases hlt : k < n
    · obtain ⟨_, hat⟩ := HAT.out
      obtain ⟨b, o, x, rfl, hx, hxt, hp⟩ := hat k hlt
      clear hat
      rw [HQS.out] at hp
      have hpv : ys[k]? = some (.iface 75 (.pointer (some ⟨b, o + k * 9, none⟩))) := by rw [HYS.out, List.getElem?_map, hp]; simp only [Option.map_some, ptV]; rw [hxt]; rfl
      have HP := Lib.hid hpv
      clear hp hx hxt hpv
      go_wp2_with (at_builtin; refine wpList_append_own_at _ rfl (.tmp 11) (.tmp 16) 56 rfl B 71 i0 _ 1 16 Try.underlying56 hi hz0 hz1 hz2 rfl (by decide) _ _ _ rfl (hh.1.alloc _) ⟨wr.heap.size, 0, none⟩ 1 1 [.iface 75 (.pointer (some ⟨b, o + k * 9, none⟩))] rfl rfl ?c1 ?c2 ?c3 ?c4 ?c5 ?_)
      case c1 => exact cell_one_new _ _ _
      case c2 => intro u hu; simp at hu; subst hu; rfl
      case c3 => unfold maxLen; omega
      case c4 => omega
      case c5 => have := hh.2.size; simp; omega
      · intro v' w3 hown3 hgrow _ hat3
        have HM := Half.more hh HP.out hown3 hgrow hat3
        clear hown3 hgrow hat3 hh
        go_wp2
        go_roundw
        case rel => exact ⟨k + 1, v', rfl, by go_num, by omega, HM⟩
        case measure => simp [intOf]; omega
    · go_wp2
      go_ret
      exact hh.done hlt hk HLEN.out HXS.out HM0.out HYS.out
set_option maxRecDepth 100000 in
set_option maxHeartbeats 1000000 in
theorem add_fd (w : World) (B : Nat) (v : Value) (ps : List Pt) (nv : Value) (l : List Nd) (hB : B ≤ w.heap.size) (hown : w.ownsRow B 71 1 v ps.length (ps.map ptV)) (hr : Rw w .fd nv l) (hs : ps.length + l.length ≤ 1000000) :
    Calls Try.prog 50 #[v, nv] w (AddSaid w B v (ps ++ ptsV .fd nv l)) := by
  obtain ⟨A, cap, hv⟩ := hr.form
  have hlen := ptsV_len hr
  subst hv
  obtain ⟨n, hn⟩ : ∃ n, l.length = n := ⟨_, rfl⟩
  rw [hn] at hr hlen hs ⊢
  obtain ⟨qs, hqs⟩ : ∃ qs, ptsV .fd (.slice A n cap) l = qs := ⟨_, rfl⟩
  rw [hqs] at hlen ⊢
  have HAT := Lib.hid hr.at
  obtain ⟨xs, hxs⟩ : ∃ xs, xs = ps.map ptV := ⟨_, rfl⟩
  obtain ⟨ys, hys⟩ : ∃ ys, ys = qs.map ptV := ⟨_, rfl⟩
  obtain ⟨m, hm⟩ : ∃ m, m = ps.length := ⟨_, rfl⟩
  rw [← hxs, ← hm] at hown
  rw [← hm] at hs
  have H0 : Half w B v m xs ys 0 v w := Half.start hown
  have HXS := Lib.hid hxs
  have HYS := Lib.hid hys
  have HM0 := Lib.hid hm
  have HLEN := Lib.hid hlen
  have HQS := Lib.hid hqs
  clear hlen hqs hn hr hown hxs hys hm
  obtain ⟨i0, hi, hz0, hz1, hz2⟩ := info_parts Try.infoPart
  go_enter Try.func50, Try.ntmps50
  go_wp2
  go_loopw [0, 8] (fun v0 v8 wr => ∃ (k : Nat) (v1 : Value), v0 = v1 ∧ v8 = .int .i64 k ∧ k ≤ n ∧ Half w B v m xs ys k v1 wr) (fun v0 v8 wr => n - (intOf v8).toNat)
  case atStart => exact ⟨0, v, rfl, rfl, Nat.zero_le _, H0⟩
  case round =>
    obtain ⟨k, v1, rfl, rfl, hk, hh⟩ := hrel
    clear H0
    by_cases hlt : k < n
    · obtain ⟨_, hat⟩ := HAT.out
      obtain ⟨b, o, x, rfl, hx, hxt, hp⟩ := hat k hlt
      clear hat
      rw [HQS.out] at hp
      have hpv : ys[k]? = some (.iface 80 (.pointer (some ⟨b, o + k * 4, none⟩))) := by rw [HYS.out, List.getElem?_map, hp]; simp only [Option.map_some, ptV]; rw [hxt]; rfl
      have HP := Lib.hid hpv
      clear hp hx hxt hpv
      go_wp2_with (at_builtin; refine wpList_append_own_at _ rfl (.tmp 11) (.tmp 16) 56 rfl B 71 i0 _ 1 16 Try.underlying56 hi hz0 hz1 hz2 rfl (by decide) _ _ _ rfl (hh.1.alloc _) ⟨wr.heap.size, 0, none⟩ 1 1 [.iface 80 (.pointer (some ⟨b, o + k * 4, none⟩))] rfl rfl ?c1 ?c2 ?c3 ?c4 ?c5 ?_)
      case c1 => exact cell_one_new _ _ _
      case c2 => intro u hu; simp at hu; subst hu; rfl
      case c3 => unfold maxLen; omega
      case c4 => omega
      case c5 => have := hh.2.size; simp; omega
      · intro v' w3 hown3 hgrow _ hat3
        have HM := Half.more hh HP.out hown3 hgrow hat3
        clear hown3 hgrow hat3 hh
        go_wp2
        go_roundw
        case rel => exact ⟨k + 1, v', rfl, by go_num, by omega, HM⟩
        case measure => simp [intOf]; omega
    · go_wp2
      go_ret
      exact hh.done hlt hk HLEN.out HXS.out HM0.out HYS.out
set_option maxRecDepth 100000 in
set_option maxHeartbeats 1000000 in
theorem add_mt (w : World) (B : Nat) (v : Value) (ps : List Pt) (nv : Value) (l : List Nd) (hB : B ≤ w.heap.size) (hown : w.ownsRow B 71 1 v ps.length (ps.map ptV)) (hr : Rw w .mt nv l) (hs : ps.length + l.length ≤ 1000000) :
    Calls Try.prog 49 #[v, nv] w (AddSaid w B v (ps ++ ptsV .mt nv l)) := by
  obtain ⟨A, cap, hv⟩ := hr.form
  have hlen := ptsV_len hr
  subst hv
  obtain ⟨n, hn⟩ : ∃ n, l.length = n := ⟨_, rfl⟩
  rw [hn] at hr hlen hs ⊢
  obtain ⟨qs, hqs⟩ : ∃ qs, ptsV .mt (.slice A n cap) l = qs := ⟨_, rfl⟩
  rw [hqs] at hlen ⊢
  have HAT := Lib.hid hr.at
  obtain ⟨xs, hxs⟩ : ∃ xs, xs = ps.map ptV := ⟨_, rfl⟩
  obtain ⟨ys, hys⟩ : ∃ ys, ys = qs.map ptV := ⟨_, rfl⟩
  obtain ⟨m, hm⟩ : ∃ m, m = ps.length := ⟨_, rfl⟩
  rw [← hxs, ← hm] at hown
  rw [← hm] at hs
  have H0 : Half w B v m xs ys 0 v w := Half.start hown
  have HXS := Lib.hid hxs
  have HYS := Lib.hid hys
  have HM0 := Lib.hid hm
  have HLEN := Lib.hid hlen
  have HQS := Lib.hid hqs
  clear hlen hqs hn hr hown hxs hys hm
  obtain ⟨i0, hi, hz0, hz1, hz2⟩ := info_parts Try.infoPart
  go_enter Try.func49, Try.ntmps49
  go_wp2
  go_loopw [0, 8] (fun v0 v8 wr => ∃ (k : Nat) (v1 : Value), v0 = v1 ∧ v8 = .int .i64 k ∧ k ≤ n ∧ Half w B v m xs ys k v1 wr) (fun v0 v8 wr => n - (intOf v8).toNat)
  case atStart => exact ⟨0, v, rfl, rfl, Nat.zero_le _, H0⟩
  case round =>
    obtain ⟨k, v1, rfl, rfl, hk, hh⟩ := hrel
    clear H0
    by_cases hlt : k < n
    · obtain ⟨_, hat⟩ := HAT.out
      obtain ⟨b, o, x, rfl, hx, hxt, hp⟩ := hat k hlt
      clear hat
      rw [HQS.out] at hp
      have hpv : ys[k]? = some (.iface 78 (.pointer (some ⟨b, o + k * 6, none⟩))) := by rw [HYS.out, List.getElem?_map, hp]; simp only [Option.map_some, ptV]; rw [hxt]; rfl
      have HP := Lib.hid hpv
      clear hp hx hxt hpv
      go_wp2_with (at_builtin; refine wpList_append_own_at _ rfl (.tmp 11) (.tmp 16) 56 rfl B 71 i0 _ 1 16 Try.underlying56 hi hz0 hz1 hz2 rfl (by decide) _ _ _ rfl (hh.1.alloc _) ⟨wr.heap.size, 0, none⟩ 1 1 [.iface 78 (.pointer (some ⟨b, o + k * 6, none⟩))] rfl rfl ?c1 ?c2 ?c3 ?c4 ?c5 ?_)
      case c1 => exact cell_one_new _ _ _
      case c2 => intro u hu; simp at hu; subst hu; rfl
      case c3 => unfold maxLen; omega
      case c4 => omega
      case c5 => have := hh.2.size; simp; omega
      · intro v' w3 hown3 hgrow _ hat3
        have HM := Half.more hh HP.out hown3 hgrow hat3
        clear hown3 hgrow hat3 hh
        go_wp2
        go_roundw
        case rel => exact ⟨k + 1, v', rfl, by go_num, by omega, HM⟩
        case measure => simp [intOf]; omega
    · go_wp2
      go_ret
      exact hh.done hlt hk HLEN.out HXS.out HM0.out HYS.out
set_option maxRecDepth 100000 in
set_option maxHeartbeats 1000000 in
theorem add_cl (w : World) (B : Nat) (v : Value) (ps : List Pt) (nv : Value) (l : List Nd) (hB : B ≤ w.heap.size) (hown : w.ownsRow B 71 1 v ps.length (ps.map ptV)) (hr : Rw w .cl nv l) (hs : ps.length + l.length ≤ 1000000) :
    Calls Try.prog 23 #[v, nv] w (AddSaid w B v (ps ++ ptsV .cl nv l)) := by
  obtain ⟨A, cap, hv⟩ := hr.form
  have hlen := ptsV_len hr
  subst hv
  obtain ⟨n, hn⟩ : ∃ n, l.length = n := ⟨_, rfl⟩
  rw [hn] at hr hlen hs ⊢
  obtain ⟨qs, hqs⟩ : ∃ qs, ptsV .cl (.slice A n cap) l = qs := ⟨_, rfl⟩
  rw [hqs] at hlen ⊢
  have HAT := Lib.hid hr.at
  obtain ⟨xs, hxs⟩ : ∃ xs, xs = ps.map ptV := ⟨_, rfl⟩
  obtain ⟨ys, hys⟩ : ∃ ys, ys = qs.map ptV := ⟨_, rfl⟩
  obtain ⟨m, hm⟩ : ∃ m, m = ps.length := ⟨_, rfl⟩
  rw [← hxs, ← hm] at hown
  rw [← hm] at hs
  have H0 : Half w B v m xs ys 0 v w := Half.start hown
  have HXS := Lib.hid hxs
  have HYS := Lib.hid hys
  have HM0 := Lib.hid hm
  have HLEN := Lib.hid hlen
  have HQS := Lib.hid hqs
  clear hlen hqs hn hr hown hxs hys hm
  obtain ⟨i0, hi, hz0, hz1, hz2⟩ := info_parts Try.infoPart
  go_enter Try.func23, Try.ntmps23
  go_wp2
  go_loopw [0, 8] (fun v0 v8 wr => ∃ (k : Nat) (v1 : Value), v0 = v1 ∧ v8 = .int .i64 k ∧ k ≤ n ∧ Half w B v m xs ys k v1 wr) (fun v0 v8 wr => n - (intOf v8).toNat)
  case atStart => exact ⟨0, v, rfl, rfl, Nat.zero_le _, H0⟩
  case round =>
    obtain ⟨k, v1, rfl, rfl, hk, hh⟩ := hrel
    clear H0
    by_cases hlt : k < n
    · obtain ⟨_, hat⟩ := HAT.out
      obtain ⟨b, o, x, rfl, hx, hxt, hp⟩ := hat k hlt
      clear hat
      rw [HQS.out] at hp
      have hpv : ys[k]? = some (.iface 65 (.pointer (some ⟨b, o + k * 4, none⟩))) := by rw [HYS.out, List.getElem?_map, hp]; simp only [Option.map_some, ptV]; rw [hxt]; rfl
      have HP := Lib.hid hpv
      clear hp hx hxt hpv
      go_wp2_with (at_builtin; refine wpList_append_own_at _ rfl (.tmp 11) (.tmp 16) 56 rfl B 71 i0 _ 1 16 Try.underlying56 hi hz0 hz1 hz2 rfl (by decide) _ _ _ rfl (hh.1.alloc _) ⟨wr.heap.size, 0, none⟩ 1 1 [.iface 65 (.pointer (some ⟨b, o + k * 4, none⟩))] rfl rfl ?c1 ?c2 ?c3 ?c4 ?c5 ?_)
      case c1 => exact cell_one_new _ _ _
      case c2 => intro u hu; simp at hu; subst hu; rfl
      case c3 => unfold maxLen; omega
      case c4 => omega
      case c5 => have := hh.2.size; simp; omega
      · intro v' w3 hown3 hgrow _ hat3
        have HM := Half.more hh HP.out hown3 hgrow hat3
        clear hown3 hgrow hat3 hh
        go_wp2
        go_roundw
        case rel => exact ⟨k + 1, v', rfl, by go_num, by omega, HM⟩
        case measure => simp [intOf]; omega
    · go_wp2
      go_ret
      exact hh.done hlt hk HLEN.out HXS.out HM0.out HYS.out
end Go.Proofs.Ytlpddmncgmhkeaa
