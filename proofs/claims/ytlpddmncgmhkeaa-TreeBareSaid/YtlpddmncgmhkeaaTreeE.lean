/- Contract of slices.Equal on parameters. -/
import Derived.Test.YtlpddmncgmhkeaaTreeD
import Derived.Deep.QuietTactic
import Derived.BigQuiet
import Derived.Laws.StructEq
set_option linter.unusedSimpArgs false
set_option linter.unusedVariables false
namespace Go.Proofs.Ytlpddmncgmhkeaa
open Go.RowKit
abbrev Prm := ByteArray × ByteArray
def prmB (x y : Prm) : Bool := x.1.toList == y.1.toList && x.2.toList == y.2.toList
def psB : List Prm → List Prm → Bool
  | [], [] => true
  | x :: l, y :: m => prmB x y && psB l m
  | _, _ => false
theorem psB_ne : ∀ {l m : List Prm}, l.length ≠ m.length → psB l m = false
  | [], [], h => by simp at h
  | [], _ :: _, _ => rfl
  | _ :: _, [], _ => rfl
  | x :: l, y :: m, h => by simp only [psB]; rw [psB_ne (by simpa using h), Bool.and_false]
theorem Pw.at {w : World} {A : Option Addr} {n cap : Nat} {l : List Prm} (h : Pw w (.slice A n cap) l) : l.length = n ∧ ∀ k, k < n → ∃ b o x, A = some ⟨b, o, none⟩ ∧ l[k]? = some x ∧ w.cell? ⟨b, o + k * 2, none⟩ = some (.string x.1) ∧ w.cell? ⟨b, o + k * 2 + 1, none⟩ = some (.string x.2) := by
  obtain ⟨A', cap', hv, _, _, hc⟩ := h
  injection hv with h1 h2 h3
  refine ⟨h2.symm, fun k hk => ?_⟩
  obtain ⟨b, o, hA, hcell⟩ := hc (by omega)
  have hl : k < l.length := by omega
  exact ⟨b, o, l[k], h1.trans hA, List.getElem?_eq_getElem hl, hcell k _ (List.getElem?_eq_getElem hl)⟩
theorem Pw.form {w : World} {v : Value} {l : List Prm} (h : Pw w v l) : ∃ A cap, v = .slice A l.length cap ∧ l.length ≤ maxLen := by
  obtain ⟨A, cap, hv, hm, _⟩ := h; exact ⟨A, cap, hv, hm⟩
theorem drop_at {α : Type} (l : List α) (k : Nat) {x : α} (h : l[k]? = some x) : l.drop k = x :: l.drop (k + 1) := by
  obtain ⟨hk, he⟩ := List.getElem?_eq_some_iff.1 h
  rw [List.drop_eq_getElem_cons hk, he]
set_option maxRecDepth 100000 in
set_option maxHeartbeats 2000000 in
theorem equal_any (w : World) (v v' : Value) (ps ps' : List Prm) (h : Pw w v ps) (h' : Pw w v' ps') :
    Calls Try.prog 68 #[v, v'] w fun e w' => e = .returned (.bool (psB ps ps')) ∧ ∃ m, w' = w.drewN m := by
  obtain ⟨A, cap, rfl, hm⟩ := h.form
  obtain ⟨A', cap', rfl, hm'⟩ := h'.form
  unfold maxLen at hm hm'
  by_cases hl : ps.length = ps'.length
  · have hat := h.at.2
    have hat' := h'.at.2
    rw [← hl] at hat'
    rw [← hl]
    obtain ⟨n, hn⟩ : ∃ n, ps.length = n := ⟨_, rfl⟩
    rw [hn] at hat hat' hm ⊢
    have HL := Lib.hid hn
    have HL' := Lib.hid (hl.symm.trans hn)
    have HAT := Lib.hid hat
    have HAT' := Lib.hid hat'
    clear hn hl hat hat' h h' hm'
    obtain ⟨r, hr⟩ : ∃ r, psB ps ps' = r := ⟨_, rfl⟩
    rw [hr]
    have HR := Lib.hid hr; clear hr
    go_enter Try.func68, Try.ntmps68
    go_wp2_with fail
    go_loopw [13] (fun v13 wr => ∃ (k m : Nat), v13 = .int .i64 k ∧ k ≤ n ∧ wr = w.drewN m ∧ psB (ps.drop k) (ps'.drop k) = r) (fun v13 wr => n - (intOf v13).toNat)
    case atStart => exact ⟨0, 0, rfl, Nat.zero_le _, rfl, HR.out⟩
    case round =>
      obtain ⟨k, m, rfl, hk, rfl, hd⟩ := hrel
      clear HR
      have HD := Lib.hid hd; clear hd
      by_cases hlt : k < n
      · obtain ⟨b, o, x, rfl, hx, c0, c1⟩ := HAT.out k hlt
        obtain ⟨b', o', x', rfl, hx', c0', c1'⟩ := HAT'.out k hlt
        have HX := Lib.hid hx
        have HX' := Lib.hid hx'
        clear hx hx'
        have HD' := Lib.hid (show (prmB x x' && psB (ps.drop (k + 1)) (ps'.drop (k + 1))) = r by rw [← HD.out, drop_at _ _ HX.out, drop_at _ _ HX'.out]; rfl)
        clear HD
        by_cases e1 : x.1.toList = x'.1.toList
        · by_cases e2 : x.2.toList = x'.2.toList
          · have HE := Lib.hid (show psB (ps.drop (k + 1)) (ps'.drop (k + 1)) = r by rw [← HD'.out]; unfold prmB; rw [e1, e2]; simp)
            go_wp2_with fail
            go_quiet (fail)
            clear e1 e2
            go_wp2_with fail
            go_roundw
            case rel => exact ⟨k + 1, m + nq, by go_num, by omega, rfl, HE.out⟩
            case measure => simp [intOf]; omega
          · have HE := Lib.hid (show r = false by rw [← HD'.out]; unfold prmB; rw [beq_false_of_ne e2]; simp)
            go_wp2_with fail
            go_quiet (fail)
            clear e1 e2
            go_wp2_with fail
            go_ret
            exact ⟨by rw [HE.out]; rfl, m + nq, World.drewN_drewN _ _ _⟩
        · have HE := Lib.hid (show r = false by rw [← HD'.out]; unfold prmB; rw [beq_false_of_ne e1]; simp)
          go_wp2_with fail
          go_quiet (fail)
          clear e1
          go_wp2_with fail
          go_ret
          exact ⟨by rw [HE.out]; rfl, m + nq, World.drewN_drewN _ _ _⟩
      · go_wp2_with fail
        go_ret
        refine ⟨?_, m, rfl⟩
        have hd := HD.out
        rw [List.drop_of_length_le (by rw [HL.out]; omega), List.drop_of_length_le (by rw [HL'.out]; omega)] at hd
        rw [← hd]; rfl
  · rw [psB_ne hl]
    have hl' : ((ps.length : Int) == ps'.length) = false := by rw [beq_eq_false_iff_ne]; omega
    have hl2 : (ps.length == ps'.length) = false := by rw [beq_eq_false_iff_ne]; exact hl
    clear h h'
    go_enter Try.func68, Try.ntmps68
    go_wp2_with fail
    go_ret
    exact ⟨rfl, 0, rfl⟩
end Go.Proofs.Ytlpddmncgmhkeaa
