/- field.check, field.Check. -/
import Derived.Test.YteogphbdpjnjoaaGreatHrC
set_option linter.unusedSimpArgs false
set_option linter.unusedVariables false
namespace Go.Proofs.YteogphbdpjnjoaaGreat
open Go.RowKit Go.Maps Go.WideMaps
theorem OwnsB.below {w w' : World} {m n : Nat} {l : List ByteArray} (h : OwnsB w m n l) (hb : Below w.heap.size w w') : OwnsB w' m n l :=
  World.ownsMap.kept h (row := none) ⟨hb.os, hb.tape, hb.output, hb.size, fun k hk _ => hb.block k hk⟩ (by simp)
/-- All types up to there are. -/
def TyTo (cs : List Hdr) (fs : List Fld) (k : Nat) : Prop := ∀ j x, j < k → fs[j]? = some x → typeS cs x.1 = true
theorem TyTo.step {cs : List Hdr} {fs : List Fld} {k : Nat} {x : Fld} (h : TyTo cs fs k) (hx : fs[k]? = some x) (e : typeS cs x.1 = true) : TyTo cs fs (k + 1) := fun j d hj hd => by
  by_cases hk : j < k
  · exact h j d hk hd
  · obtain rfl : j = k := by omega
    rw [hx] at hd; injection hd with hd; rw [← hd]; exact e
theorem fok_of {cs : List Hdr} {fs : List Fld} {k : Nat} (h1 : (fs.map (·.2)).Nodup) (h2 : TyTo cs fs k) (hk : fs.length ≤ k) : FOk cs fs :=
  ⟨h1, fun x hx => by
    obtain ⟨j, hj⟩ := List.mem_iff_getElem?.1 hx
    exact h2 j x (by have := (List.getElem?_eq_some_iff.1 hj).1; omega) hj⟩
def FCkP (cs : List Hdr) (fs : List Fld) (w : World) (e : Ending) (w' : World) : Prop := ∃ a : Int, e = .returned (.int .i64 a) ∧ (a = 0 ↔ FOk cs fs) ∧ Below w.heap.size w w'
theorem fck_bad {cs : List Hdr} {fs : List Fld} {w W : World} {a : Int} (h : a ≠ 0) (hn : ¬ FOk cs fs) (hb : Below w.heap.size w W) : FCkP cs fs w (.returned (.int .i64 a)) W := ⟨a, rfl, ⟨fun e => absurd e h, fun g => absurd g hn⟩, hb⟩
set_option maxRecDepth 100000 in
set_option maxHeartbeats 8000000 in
theorem check_any (w : World) (b o : Nat) (v : Value) (fs : List Fld) (m N : Nat) (cs : List Hdr) (h2 : w.cell? ⟨b, o + 2, none⟩ = some v) (hf : FrV w v fs) (ho : OwnsB w m N (cs.map (·.1))) :
    Calls Tryz.prog 40 #[.iface 105 (.pointer (some ⟨b, o, none⟩)), .map (some m)] w (FCkP cs fs w) := by
  have HFI := Lib.hid (fields_any w b o v h2)
  have HF := Lib.hid hf
  have HO := Lib.hid ho
  have HTW : Hid (∀ W, Below w.heap.size w W → Calls Tryz.prog 64 #[v] W fun e w' => ∃ q : Bool, e = .returned (.bool q) ∧ (q = false ↔ (fs.map (·.2)).Nodup) ∧ Below W.heap.size W w') := Lib.hid fun W hb => twice_any W v fs (hf.below hb)
  obtain ⟨A, cap, rfl, hcap, hbig, _, _⟩ := hf
  obtain ⟨n, hn⟩ : ∃ n, fs.length = n := ⟨_, rfl⟩
  have HN := Lib.hid hn
  rw [hn] at HF HFI HTW hcap hbig
  clear hn ho h2
  go_enter Tryz.func40, Tryz.ntmps40
  go_upto_region 2 with (go_at_call 63; refine HFI.out.mono ?_; clear HFI; rintro e w1 ⟨rfl, hb⟩; have HB1 := Lib.hid hb; clear hb)
  go_wp2_with (go_at_call 64; refine (HTW.out _ HB1.out).mono ?_; clear HTW; rintro e w2 ⟨q, rfl, hq, hb⟩; have HB2 := Lib.hid (HB1.out.trans (hb.mono HB1.out.size)); have HQ := Lib.hid hq; clear hb hq)
  · have hq : q = true := by assumption
    go_ret
    exact fck_bad (by decide) (fun g => by have := HQ.out.2 g.1; rw [hq] at this; cases this) HB2.out
  · have hq : q = false := by assumption
    have HND : Hid ((fs.map (·.2)).Nodup) := Lib.hid (HQ.out.1 hq)
    subst hq
    clear HQ
    go_loopw [16] (fun v16 wr => ∃ k : Nat, k ≤ n ∧ v16 = .int .i64 k ∧ Below w.heap.size w wr ∧ Hid (TyTo cs fs k)) (fun v16 _ => n - (intOf v16).toNat)
    case atStart => exact ⟨0, Nat.zero_le _, rfl, HB2.out, Lib.hid (fun j x h => by omega)⟩
    case round =>
      obtain ⟨k, hk, rfl, hB, hT⟩ := hrel
      by_cases hlt : k < n
      · obtain ⟨x, hx⟩ : ∃ x, fs[k]? = some x := ⟨fs[k]'(by rw [HN.out]; exact hlt), List.getElem?_eq_getElem _⟩
        obtain ⟨b5, o5, e5, ⟨hsz, _⟩, st, A3, n3, k3, a0, a1, a2, a3⟩ := (HF.out.below hB).at_ hx
        subst e5
        have hkey := keyS hsz
        have HX := Lib.hid hx
        have HSP := Lib.hid (typeS_split cs x.1)
        have hown := HO.out.below hB
        obtain ⟨x1, x2⟩ := x
        have HHA := Lib.hid (has_setB (cs.map (·.1)) x1)
        obtain ⟨a, ha⟩ : ∃ a, inB x1 (cs.map (·.1)) = a := ⟨_, rfl⟩
        obtain ⟨r, hr⟩ : ∃ r, typeS [] x1 = r := ⟨_, rfl⟩
        have HTY : Hid (∀ W, Calls Tryz.prog 65 #[.agg #[.slice none 0 0], .string x1] W fun e w' => e = .returned (.bool r) ∧ Below W.heap.size W w') := Lib.hid fun W => by rw [← hr]; exact ktype_any (cl_nil W) x1
        dsimp only at HSP
        rw [ha, hr] at HSP
        rw [ha] at HHA
        have HBk := Lib.hid hB
        clear hx ha hr hB
        have hbb : Below w.heap.size w ((wr.alloc (.cells #[.bool st, .string x1, .string x2, .slice A3 n3 k3] 55)).alloc (.cells #[] 128)) := (HBk.out.alloc HBk.out.size _).alloc (by have := HBk.out.size; simp; omega) _
        have HBB := Lib.hid hbb
        clear hbb
        cases a
        · cases r
          · have hbad : Hid (¬ FOk cs fs) := Lib.hid (fun g => by
              have := g.2 _ (List.mem_of_getElem? HX.out)
              rw [HSP.out] at this
              exact absurd this (by decide))
            go_wp2_with (first
              | (at_lookup; refine wpList_lookup_own_unit _ rfl _ _ 102 rfl 9 128 lawS Tryz.underlying102 (zeroU _) m N _ rfl (World.ownsMap.alloc hown _) _ _ rfl hkey ?_; rw [HHA.out])
              | (go_at_call 65; refine (HTY.out _).mono ?_; rintro e w6 ⟨rfl, hb⟩; have HB6 := Lib.hid (HBB.out.trans (hb.mono HBB.out.size)); clear hb))
            go_ret
            exact fck_bad (by decide) hbad.out HB6.out
          · have hN : Hid (TyTo cs fs (k + 1)) := Lib.hid (hT.out.step HX.out HSP.out)
            go_wp2_with (first
              | (at_lookup; refine wpList_lookup_own_unit _ rfl _ _ 102 rfl 9 128 lawS Tryz.underlying102 (zeroU _) m N _ rfl (World.ownsMap.alloc hown _) _ _ rfl hkey ?_; rw [HHA.out])
              | (go_at_call 65; refine (HTY.out _).mono ?_; rintro e w6 ⟨rfl, hb⟩; have HB6 := Lib.hid (HBB.out.trans (hb.mono HBB.out.size)); clear hb))
            go_roundw
            case rel => exact ⟨k + 1, by omega, by go_num, HB6.out, hN⟩
            case measure => simp [intOf]; omega
        · have hN : Hid (TyTo cs fs (k + 1)) := Lib.hid (hT.out.step HX.out HSP.out)
          go_wp2_with (at_lookup; refine wpList_lookup_own_unit _ rfl _ _ 102 rfl 9 128 lawS Tryz.underlying102 (zeroU _) m N _ rfl (World.ownsMap.alloc hown _) _ _ rfl hkey ?_; rw [HHA.out])
          go_roundw
          case rel => exact ⟨k + 1, by omega, by go_num, HBB.out, hN⟩
          case measure => simp [intOf]; omega
      · have HG : Hid (FOk cs fs) := Lib.hid (fok_of HND.out hT.out (by rw [HN.out]; omega))
        have HBk := Lib.hid hB
        clear hT hB
        go_wp2_with fail
        go_ret
        exact ⟨0, rfl, ⟨fun _ => HG.out, fun _ => rfl⟩, HBk.out⟩
end Go.Proofs.YteogphbdpjnjoaaGreat
