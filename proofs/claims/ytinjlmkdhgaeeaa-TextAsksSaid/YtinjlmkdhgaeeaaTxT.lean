/- Law 14's told, out of what the calls answer. -/
import Derived.Test.YtinjlmkdhgaeeaaTxS
import Derived.Laws.StructEq
import Derived.Laws.BytesString
import Derived.OwnWalk
set_option linter.unusedSimpArgs false
set_option linter.unusedVariables false
namespace Go.Proofs.Ytinjlmkdhgaeeaa
open Go.RowKit

theorem Try.infoByteT : (Try.prog.info? 5).map (fun i => (i.zero, i.size, i.bytes)) = some (some (.int .u8 0), 1, 1) := by kernel_rfl
def zerosT (n : Nat) : ByteArray := (List.replicate n (0 : Int)).foldl (fun r n => r.push (UInt8.ofNat n.toNat)) ByteArray.empty
theorem push_size : ∀ (l : List Int) (s : ByteArray), (l.foldl (fun r n => r.push (UInt8.ofNat n.toNat)) s).size = s.size + l.length
  | [], s => by simp
  | x :: l, s => by rw [List.foldl_cons, push_size l]; simp; omega
theorem zerosT_size (n : Nat) : (zerosT n).size = n := by unfold zerosT; rw [push_size]; simp
theorem zeros_conv {w : World} {B g n : Nat} (h : w.ownsRow B 5 1 (.slice (some ⟨g, 0, none⟩) n n) n (madeCells (Value.int .u8 0).cells (n * 1)).toList) : (convert 38 9 (.slice (some ⟨g, 0, none⟩) n n)).run Try.prog w = .ok (.string (zerosT n)) w := by
  rw [run_convert_bytes_string w 38 9 5 _ _ _ Try.underlying38 Try.underlying5 Try.underlying9]
  apply run_bytesToString
  have hc := h.cells (g := g) rfl
  rw [run_loadCells w ⟨g, 0, none⟩ n (fun _ => .int .u8 0) (fun j hj => hc j _ (by
    rw [show (Value.int .u8 0).cells = #[.int .u8 0] from rfl]
    simp [madeCells, hj, Nat.mod_one]))]
  congr 2
  rw [List.map_replicate]
  apply List.ext_getElem
  · simp
  · intro i h1 h2; simp
theorem valT (k n : Int) (s : ByteArray) : valV k n s = .agg #[.int .i64 k, .int .i32 n, .string s] := rfl
set_option maxRecDepth 100000 in
set_option maxHeartbeats 4000000 in
theorem told_of (C : TextC0) (w : World) : Calls Try.prog 7 #[] w fun e w' => e = .returned (.bool true) ∧ Below w.heap.size w w' := by
  have t3 : decT (-3) = ⟨#[45, 51]⟩ := dec_is (by decide +kernel)
  have t4 : decT 3 = ⟨#[51]⟩ := dec_is (by decide +kernel)
  have o1 : ofT 1 (-3) ⟨#[]⟩ = ⟨#[45, 51]⟩ := t3
  have o2 : ofT 1 3 ⟨#[]⟩ = ⟨#[51]⟩ := t4
  have J1 : Hid (∀ W, Calls Try.prog 8 #[.agg #[.int .i64 3, .int .i32 0, .string ⟨#[113]⟩], .agg #[.int .i64 1, .int .i32 (-3), .string ⟨#[]⟩]] W fun e w' => e = .returned (.tuple #[.agg #[.int .i64 3, .int .i32 0, .string ⟨#[113, 45, 51]⟩], .bool true]) ∧ Below W.heap.size W w') := Lib.hid fun W => by
    have := C.join 3 0 ⟨#[113]⟩ 1 (-3) ⟨#[]⟩ ⟨by decide, by decide⟩ ⟨by decide, by decide⟩ (by decide) (by decide) W
    rw [o1, show ofT 3 0 ⟨#[113]⟩ = ⟨#[113]⟩ from rfl] at this
    exact this
  obtain ⟨z, hz⟩ : ∃ z, zerosT 1000 = z := ⟨_, rfl⟩
  have hzs : z.size = 1000 := by rw [← hz]; exact zerosT_size 1000
  have J2 : Hid (∀ W, Calls Try.prog 8 #[.agg #[.int .i64 3, .int .i32 0, .string z], .agg #[.int .i64 1, .int .i32 3, .string ⟨#[]⟩]] W fun e w' => e = .returned (.tuple #[.agg #[.int .i64 0, .int .i32 0, .string ⟨#[]⟩], .bool false]) ∧ Below W.heap.size W w') := Lib.hid fun W => by
    have := C.join 3 0 z 1 3 ⟨#[]⟩ ⟨by decide, by decide⟩ ⟨by decide, by decide⟩ (by omega) (by decide) W
    have e : (z ++ (⟨#[51]⟩ : ByteArray)).size = 1001 := by rw [ByteArray.size_append, hzs]; rfl
    rw [o2, show ofT 3 0 z = z from rfl, joinT, if_pos (by omega)] at this
    exact this
  have A1 : Hid (∀ W, Calls Try.prog 10 #[.string ⟨#[104, 195, 169, 121]⟩, .int .i32 1] W fun e w' => e = .returned (.tuple #[.string ⟨#[195, 169]⟩, .bool true]) ∧ Below W.heap.size W w') := Lib.hid fun W => by
    have := C.at_ ⟨#[104, 195, 169, 121]⟩ (by decide) 1 ⟨by decide, by decide⟩ W
    rw [show atT ⟨#[104, 195, 169, 121]⟩ 1 = (⟨#[195, 169]⟩, true) by decide +kernel] at this
    exact this
  have A2 : Hid (∀ W, Calls Try.prog 10 #[.string ⟨#[97, 98]⟩, .int .i32 2] W fun e w' => e = .returned (.tuple #[.string ⟨#[]⟩, .bool false]) ∧ Below W.heap.size W w') := Lib.hid fun W => by
    have := C.at_ ⟨#[97, 98]⟩ (by decide) 2 ⟨by decide, by decide⟩ W
    rw [show atT ⟨#[97, 98]⟩ 2 = (⟨#[]⟩, false) by decide +kernel] at this
    exact this
  have L1 : Hid (∀ W, Calls Try.prog 14 #[.string ⟨#[195, 169]⟩] W fun e w' => e = .returned (.int .i32 1) ∧ Below W.heap.size W w') := Lib.hid fun W => by
    have := C.len ⟨#[195, 169]⟩ (by decide) W
    rw [show lenT ⟨#[195, 169]⟩ = 1 by decide +kernel] at this
    exact this
  have O1 : Hid (∀ W, Calls Try.prog 12 #[.agg #[.int .i64 2, .int .i32 1, .string ⟨#[]⟩]] W fun e w' => e = .returned (.string ⟨#[116, 114, 117, 101]⟩) ∧ Below W.heap.size W w') := Lib.hid fun W => C.of 2 1 ⟨#[]⟩ ⟨by decide, by decide⟩ (by decide) W
  have O2 : Hid (∀ W, Calls Try.prog 12 #[.agg #[.int .i64 4, .int .i32 3, .string ⟨#[]⟩]] W fun e w' => e = .returned (.string ⟨#[]⟩) ∧ Below W.heap.size W w') := Lib.hid fun W => C.of 4 3 ⟨#[]⟩ ⟨by decide, by decide⟩ (by decide) W
  have S1 : Hid (∀ W, Calls Try.prog 16 #[.agg #[.int .i64 3, .int .i32 0, .string ⟨#[97]⟩], .agg #[.int .i64 3, .int .i32 4, .string ⟨#[97]⟩]] W fun e w' => e = .returned (.bool true) ∧ Below W.heap.size W w') := Lib.hid fun W => by
    have := C.same 3 0 ⟨#[97]⟩ 3 4 ⟨#[97]⟩ W
    rw [show sameT 3 0 ⟨#[97]⟩ 3 4 ⟨#[97]⟩ = true by decide +kernel] at this
    exact this
  have S2 : Hid (∀ W, Calls Try.prog 16 #[.agg #[.int .i64 1, .int .i32 0, .string ⟨#[]⟩], .agg #[.int .i64 2, .int .i32 0, .string ⟨#[]⟩]] W fun e w' => e = .returned (.bool false) ∧ Below W.heap.size W w') := Lib.hid fun W => by
    have := C.same 1 0 ⟨#[]⟩ 2 0 ⟨#[]⟩ W
    rw [show sameT 1 0 ⟨#[]⟩ 2 0 ⟨#[]⟩ = false by decide +kernel] at this
    exact this
  have HZ := Lib.hid hz
  have hc : Below w.heap.size w w := Below.refl _ _
  clear t3 t4 o1 o2 hz hzs C
  obtain ⟨ib, hib, hb0, hb1, hb2⟩ := info_parts Try.infoByteT
  go_enter Try.func7, Try.ntmps7
  go_wp2_with fail
  refine (J1.out _).mono ?_
  rintro e w1 ⟨rfl, hh⟩
  replace hc := hc.trans (hh.mono hc.size); clear hh
  have AL : Below w1.heap.size w1 (w1.alloc (.cells #[.int .i64 3, .int .i32 0, .string ⟨#[113, 45, 51]⟩] 23)) := (Below.refl _ _).alloc (Nat.le_refl _) _
  have HX := Lib.hid (Bx.new w1 #[.int .i64 3, .int .i32 0, .string ⟨#[113, 45, 51]⟩] 23)
  replace hc := hc.trans (AL.mono hc.size)
  clear AL
  go_wp2_with (at_make; refine wpList_make_full _ rfl _ _ 38 rfl w.heap.size 5 ib (.int .u8 0) 1 Try.underlying38 hib hb0 hb1 .i64 .i64 _ _ 1000 rfl rfl (by omega) (by omega) (by rw [hb2]; omega) (by unfold maxLen; omega) hc.size ?_; intro w2 hown2 hgr2; have hcv := zeros_conv hown2; rw [HZ.out, World.size_alloc] at hcv)
  have hbm : Below (w1.alloc (.cells #[.int .i64 3, .int .i32 0, .string ⟨#[113, 45, 51]⟩] 23)).heap.size (w1.alloc (.cells #[.int .i64 3, .int .i32 0, .string ⟨#[113, 45, 51]⟩] 23)) w2 := (Below.refl _ _).grown hgr2 (Nat.le_refl _) (fun k h => by cases h)
  replace HX := Lib.hid (HX.out.next hbm)
  replace hc := hc.trans (hbm.mono hc.size)
  clear hown2 hgr2 hbm hib hb0 hb1 hb2
  refine (J2.out _).mono ?_
  rintro e w3 ⟨rfl, hh⟩
  replace HX := Lib.hid (HX.out.next hh)
  replace hc := hc.trans (hh.mono hc.size); clear hh
  have AL : Below w3.heap.size w3 (w3.alloc (.cells #[.int .i64 0, .int .i32 0, .string ⟨#[]⟩] 23)) := (Below.refl _ _).alloc (Nat.le_refl _) _
  replace HX := Lib.hid (HX.out.next AL)
  replace hc := hc.trans (AL.mono hc.size)
  clear AL hcv
  go_wp2_with fail
  refine (A1.out _).mono ?_
  rintro e w4 ⟨rfl, hh⟩
  replace HX := Lib.hid (HX.out.next hh)
  replace hc := hc.trans (hh.mono hc.size); clear hh
  go_wp2_with fail
  refine (A2.out _).mono ?_
  rintro e w5 ⟨rfl, hh⟩
  replace HX := Lib.hid (HX.out.next hh)
  replace hc := hc.trans (hh.mono hc.size); clear hh
  obtain ⟨e00, e01, e02⟩ := HX.out.three
  go_wp2_with fail
  refine (L1.out _).mono ?_
  rintro e w6 ⟨rfl, hh⟩
  replace HX := Lib.hid (HX.out.next hh)
  replace hc := hc.trans (hh.mono hc.size); clear hh
  go_wp2_with fail
  refine (O1.out _).mono ?_
  rintro e w7 ⟨rfl, hh⟩
  replace HX := Lib.hid (HX.out.next hh)
  replace hc := hc.trans (hh.mono hc.size); clear hh
  go_wp2_with fail
  refine (O2.out _).mono ?_
  rintro e w8 ⟨rfl, hh⟩
  replace HX := Lib.hid (HX.out.next hh)
  replace hc := hc.trans (hh.mono hc.size); clear hh
  go_wp2_with fail
  refine (S1.out _).mono ?_
  rintro e w9 ⟨rfl, hh⟩
  replace HX := Lib.hid (HX.out.next hh)
  replace hc := hc.trans (hh.mono hc.size); clear hh
  go_wp2_with fail
  refine (S2.out _).mono ?_
  rintro e w10 ⟨rfl, hh⟩
  replace HX := Lib.hid (HX.out.next hh)
  replace hc := hc.trans (hh.mono hc.size); clear hh
  go_wp2_with fail
  go_ret
  exact ⟨rfl, hc⟩
end Go.Proofs.Ytinjlmkdhgaeeaa
