/- Statements of layer 2 as walks: a note put ahead of a word. -/
import Derived.Test.YtolhanngkackcaaLawW2
import Derived.Test.YtolhanngkackcaaLawW4
import Derived.Test.YtolhanngkackcaaWordJ
import Derived.Test.YtolhanngkackcaaRefF
import Derived.Deep.RegionWith
set_option linter.unusedSimpArgs false
set_option linter.unusedVariables false
namespace Go.Proofs.Ytolhanngkackcaa
open Go.RowKit

theorem bk_cat (a b : ByteArray) (l m : List UInt8) (h1 : a.data.toList = l) (h2 : b.data.toList = m) : a ++ b = B (l ++ m) := by
  apply ba_is; rw [app_list, h1, h2]
theorem bk_text (s : ByteArray) (k : Nat) : s.extract 0 k ++ (⟨#[32, 47, 47, 32, 120, 32, 34, 32, 63, 10, 9]⟩ : ByteArray) ++ s.extract k s.size = B (s.data.toList.take k ++ (note ++ s.data.toList.drop k)) := by
  rw [bk_cat _ _ _ (s.data.toList.drop k) (app_list _ _) (drop_extract s k), extract_list, List.drop_zero, Nat.sub_zero, List.append_assoc]; rfl
theorem chain_lt (s : ByteArray) : ∀ (l : List Wd) (e : Nat), chain s e l → ∀ y ∈ l, y.a < s.size
  | [], e, _, y, hy => by simp at hy
  | z :: t, e, h, y, hy => by
    obtain ⟨_, h2, _, _, h3⟩ := h
    rcases List.mem_cons.1 hy with rfl | hy
    · exact h2
    · rcases h3 with ⟨_, _, h4⟩ | ⟨_, _, _, _, h4⟩
      · exact chain_lt s t _ h4 y hy
      · exact chain_lt s t _ h4 y hy
theorem own_zero {W : World} {B : Nat} {v : Value} {xs : List Value} (h : W.ownsRow B 32 3 v 0 xs) : ∃ A c, v = .slice A 0 c := by
  rcases h.2 with ⟨e, _⟩ | ⟨g, cap, _, e, _⟩
  · exact ⟨_, _, e⟩
  · exact ⟨_, _, e⟩
set_option maxRecDepth 100000 in
set_option maxHeartbeats 4000000 in
theorem lawWordBlanks (s : ByteArray) (a : Int) (hs : s.size ≤ maxLen) (ha : (Lit.int .i64 a).wf = true) (w : World) : Calls Try.prog 5 #[.string s, .int .i64 a] w fun e w' => e = .returned (.bool true) ∧ Below w.heap.size w w' := by
  by_cases h2 : 150 < s.size
  · have h2' : (150 : Int) < s.size := by omega
    go_enter Try.func5, Try.ntmps5
    go_wp2_with (go_at_call 9; refine (told2_any _).mono ?_; rintro e w1 ⟨rfl, hb⟩)
    go_ret
    exact ⟨rfl, hb⟩
  · have h2' : (s.size : Int) ≤ 150 := by omega
    by_cases h0 : allE s = 0
    · obtain ⟨ws, hws⟩ : ∃ ws, allW s = ws := ⟨_, rfl⟩
      obtain ⟨aa, haa⟩ : ∃ aa, allA s = aa := ⟨_, rfl⟩
      have hlen := all_len s
      have hch := all_chain s
      have hput := put_ok s (by omega) h0
      rw [hws] at hlen hput hch
      have HA : Hid (∀ w : World, _) := fun w => tell s ws 0 aa hws h0 haa hs w
      have HP := Lib.hid hput; clear hput
      have HCH := Lib.hid (chain_lt s ws 0 hch); clear hch
      clear hws h0 haa
      have hlen' : (ws.length : Int) ≤ 150 := by omega
      rcases Nat.eq_zero_or_pos ws.length with hz | hz
      · obtain rfl : ws = [] := List.eq_nil_of_length_eq_zero hz
        clear HP HCH
        go_enter Try.func5, Try.ntmps5
        go_wp2_with (first
          | (go_at_call 10; refine (HA.out _).mono ?_; clear HA; rintro e w1 ⟨v, rfl, ho, hb⟩; obtain ⟨A, c, rfl⟩ := own_zero ho)
          | (go_at_call 9; refine (told2_any _).mono ?_; rintro e w2 ⟨rfl, hb2⟩))
        go_ret
        exact ⟨rfl, hb.trans (hb2.mono hb.size)⟩
      · obtain ⟨x, i, a1, a2, a3, a4, a5, a6⟩ := which a ws.length hz (by omega)
        have hzb : ((ws.length : Int) == 0) = false := by rw [beq_eq_false_iff_ne]; omega
        have hcell := (cellsW_at ws i a3).2.2
        obtain ⟨kk, hkk⟩ : ∃ kk, ws[i].a = kk := ⟨_, rfl⟩
        have hput := HP.out i a3
        rw [hkk] at hcell hput
        have hkl : kk ≤ s.size := by
          have := HCH.out ws[i] (List.getElem_mem a3)
          omega
        clear HP
        have HM : Hid (∀ W, Calls Try.prog 10 #[.string (s.extract 0 kk ++ (⟨#[32, 47, 47, 32, 120, 32, 34, 32, 63, 10, 9]⟩ : ByteArray) ++ s.extract kk s.size)] W fun e w' => ∃ z : Value, e = .returned (.tuple #[z, .int .i64 0, .int .i64 0]) ∧ w'.ownsRow W.heap.size 32 3 z ws.length (cellsW (ws.map (pushed kk 11))) ∧ Below W.heap.size W w') := by
          show ∀ W, _
          intro W
          rw [bk_text]
          have := tell _ _ 0 0 hput.1 hput.2.1 hput.2.2 (by rw [B_size]; unfold maxLen; simp only [List.length_append, List.length_take, List.length_drop]; rw [show note.length = 11 from rfl]; have : s.data.toList.length = s.size := by simp
                                                            omega) W
          rw [List.length_map] at this
          exact this
        have HK := Lib.hid hkk
        clear hput hkk
        have hkl' : (kk : Int) ≤ s.size := by omega
        have HCELL := Lib.hid hcell; clear hcell
        go_enter Try.func5, Try.ntmps5
        go_wp2_with (go_at_call 10; refine (HA.out _).mono ?_; clear HA; rintro e w1 ⟨v, rfl, ho, hb⟩; obtain ⟨g, cap, rfl, hB1, hg, hcap, hm, _⟩ := own_at ho hz; have d2 := own_cell ho _ _ HCELL.out)
        clear a1 a2 a4 a5 a6 d2
        go_region_with (go_at_call 10; refine (HM.out _).mono ?_; rintro e w2 ⟨v2, rfl, ho2, hb2⟩)
        clear HM HCELL
        obtain ⟨g2, cap2, rfl, hB2, hg2, hcap2, hm2, _⟩ := own_at ho2 hz
        have hs1 : w.heap.size ≤ w1.drew.heap.size := hb.size
        have hB : Below w.heap.size w w2 := hb.drew.trans (hb2.mono hs1)
        have hO : w2.ownsRow w.heap.size 32 3 (.slice (some ⟨g, 0, none⟩) ws.length cap) ws.length (cellsW ws) := own_next (w := w1.drew) ho hb2
        clear ho hb hb2
        have HO2 : Hid (w2.ownsRow w1.drew.heap.size 32 3 (.slice (some ⟨g2, 0, none⟩) ws.length cap2) ws.length (cellsW (ws.map (pushed kk 11)))) := ho2
        clear ho2
        obtain ⟨bb, hbb⟩ : ∃ bb, w1.drew.heap.size = bb := ⟨_, rfl⟩
        rw [hbb] at HO2 hB2
        clear hbb hs1
        go_wp2
        go_loopw [13] (fun v wr => ∃ j : Nat, v = .int .i64 j ∧ j ≤ ws.length ∧ wr.ownsRow w.heap.size 32 3 (.slice (some ⟨g, 0, none⟩) ws.length cap) ws.length (cellsW ws) ∧ wr.ownsRow bb 32 3 (.slice (some ⟨g2, 0, none⟩) ws.length cap2) ws.length (cellsW (ws.map (pushed kk 11))) ∧ Below w.heap.size w wr) (fun v wr => ws.length - (intOf v).toNat)
        case atStart => exact ⟨0, rfl, Nat.zero_le _, hO, HO2.out, hB⟩
        case round =>
          obtain ⟨j, rfl, hj, hoA, hoB, hbr⟩ := hrel
          clear hO HO2 hB
          by_cases hlt : j < ws.length
          · obtain ⟨c0, c1, c2⟩ := cellsW_at ws j hlt
            obtain ⟨p0, p1, p2⟩ := cellsW_at (ws.map (pushed kk 11)) j (by rw [List.length_map]; exact hlt)
            rw [List.getElem_map] at p0 p1 p2
            have d0 := own_cell hoA _ _ c0
            have d1 := own_cell hoA _ _ c1
            have d2 := own_cell hoA _ _ c2
            have q0 := own_cell hoB _ _ p0
            have q1 := own_cell hoB _ _ p1
            have q2 := own_cell hoB _ _ p2
            have hya : ws[j].a ≤ 1000 := by have := HCH.out ws[j] (List.getElem_mem hlt); omega
            obtain ⟨y, hy⟩ : ∃ y, ws[j] = y := ⟨_, rfl⟩
            rw [hy] at d0 d1 d2 q0 q1 q2 hya
            clear c0 c1 c2 p0 p1 p2 hy
            obtain ⟨yk, yt, ya⟩ := y
            simp only [] at d0 d1 d2 hya
            obtain ⟨tb, htb⟩ : ∃ tb : ByteArray, tb = ⟨yt.toArray⟩ := ⟨_, rfl⟩
            by_cases hge : kk ≤ ya
            · rw [pushed, if_pos hge] at q0 q1 q2
              simp only [moved] at q0 q1 q2
              rw [← htb] at d1 q1
              clear htb
              have hge' : (kk : Int) ≤ ya := by omega
              have e11 : ((ya + 11 : Nat) : Int) = (ya : Int) + 11 := by omega
              rw [e11] at q2
              clear e11
              go_wp2
              go_quiet (fail)
              go_wp2
              go_roundw
              case rel => exact ⟨j + 1, by go_num, by omega, hoA, hoB, below_drewN hbr _⟩
              case measure => simp [intOf]; omega
            · rw [pushed, if_neg hge] at q0 q1 q2
              simp only [] at q0 q1 q2
              rw [← htb] at d1 q1
              clear htb
              have hge' : (ya : Int) < kk := by omega
              go_wp2
              go_quiet (fail)
              go_wp2
              go_roundw
              case rel => exact ⟨j + 1, by go_num, by omega, hoA, hoB, below_drewN hbr _⟩
              case measure => simp [intOf]; omega
          · go_wp2_with (go_at_call 9; refine (told2_any _).mono ?_; rintro e w3 ⟨rfl, hb3⟩)
            go_ret
            exact ⟨rfl, hbr.trans (hb3.mono hbr.size)⟩
    · obtain ⟨e1, e2, e3, e4⟩ := all_bad s (by omega) h0
      obtain ⟨aa, haa⟩ : ∃ aa, allA s = aa := ⟨_, rfl⟩
      have HA : Hid (∀ w : World, _) := fun w => tell s [] 2 aa e1 e2 haa hs w
      clear e1 e2 e3 e4 haa h0
      go_enter Try.func5, Try.ntmps5
      go_wp2_with (first | (go_at_call 9; refine (told2_any _).mono ?_; rintro e w2 ⟨rfl, hb2⟩) | (go_at_call 10; refine (HA.out _).mono ?_; clear HA; rintro e w1 ⟨v, rfl, ho, hb⟩))
      go_ret
      exact ⟨rfl, hb.trans (hb2.mono hb.size)⟩
end Go.Proofs.Ytolhanngkackcaa
