/- Parts of the proof: GlW, GlX, BxA, Plain, Text, Sign, SignB, SignE, SignQ, SignC, SignF. -/
import Derived.Test.YtaclhdpjkgoadaaGreatDoorEw4
import Derived.Handed
import Derived.SizedLaws
import Derived.Shelf.Vars
import Derived.Test.YtaclhdpjkgoadaaGreatDoorProg
import Derived.WalkKit
import Derived.Below
import Derived.Laws.OwnMore
import Derived.Lib.OthersKept
import Derived.Lib.RuneBytes
import Derived.Lib.DecodeNEq
import Derived.Lib.RuneCount
import Derived.Lib.Strings
import Derived.Test.YtaclhdpjkgoadaaGreatDoorShelf
import Derived.BigCall
import Derived.Deep.QuietTactic
import Derived.BigQuiet
import Derived.Lib.Hide
set_option maxHeartbeats 2000000
namespace Go.Proofs.YtaclhdpjkgoadaaGreatDoor
set_option linter.unusedSimpArgs false
set_option linter.unusedVariables false
section
open Go.ChangeShapes Go.WideShapes Go.RowKit
theorem glW_shaped {P : Program} {W : World} (hsh : W.ShapedOpen P) (h : ∀ g, glob = some g → g < P.globals.size ∧ ((begin P (fun _ _ => 0) default).world.heap[g]?).bind Obj.row? = some (#[.int .i64 0], globT) ∧ P.buildable globT = true ∧ P.cellTypes P.depth globT = some [globT] ∧ P.underlying globT = some (.int .i64)) :
   ∃ C, GlW C W := by
 cases hq : glob with
 | none => exact ⟨0, fun g hg => by rw [hq] at hg; cases hg⟩
 | some g0 =>
   obtain ⟨h1, h2, h3, h4, h5⟩ := h g0 hq
   obtain ⟨m, hm⟩ := cell_of_shapedOpen_int hsh h1 h2 rfl h3 h4 h5
   obtain ⟨cs, hh, hs, _⟩ := hsh.1 g0 _ _ h1 h2
   refine ⟨encI m, fun g hg => ?_⟩
   rw [hq] at hg; cases hg
   have hs1 : cs.size = 1 := hs
   have hc : cs[0]? = some (.int .i64 m) := by
     rw [← hm]; simp [World.cell?, hh]
   have : cs = #[.int .i64 m] := by
     apply Array.ext
     · simp [hs1]
     · intro i hi1 hi2
       have : i = 0 := by omega
       subst this
       rw [Array.getElem?_eq_getElem hi1] at hc
       exact Option.some.inj hc
   rw [hh, this]
   show _ = some (Obj.cells #[.int .i64 (decI (encI m))] globT (0, 0))
   rw [decI_encI]
end
section
open Go.ChangeShapes Go.WideShapes Go.RowKit
theorem handed_shapedX {H : Type} {enc : TypeId × Value → H} {C : Checked} {os : Os} {f : FuncId} {fn : Func} {s : ChangeSpec} {X : World → Array Value → Prop}
   (hX : ∀ (w w' : World) (args : Array Value), w.heap = w'.heap → X w args → X w' args) (own : ownKnob C.prog.godebug = none) (started : os.Started) (noInit : C.prog.inits.idxOf? f = none) (hfn : C.prog.funcs[f]? = some fn)
   (witness : ∃ (w : World) (tape : Tape) (i : Input), w.os = os ∧ (w.forCall tape i).Shaped C.prog ∧ i.vars = [] ∧ Input.okWide C.prog (w.forCall tape i) .any w.heap.size f i ∧
     ((s.pre enc C.prog fn [] false (w.forCall tape i).memory i.args ∧ X (w.forCall tape i).memory i.args) ∧ sizedMet enc C.prog fn (OpenSpec.ofChange s) false (w.forCall tape i).memory i.args) ∧ ({} : Assume).holds C.prog (lone (Frame.enter C.prog f i.args .normal) [] (w.forCall tape i)))
   (contract : ∀ (W : World) (base : Nat) (args : Array Value) (ds gs : List (DataW H)) (before : List MemPlace), (∀ (j : Nat) t v, fn.params[j]? = some t → args[j]? = some v → Value.okWide C.prog W .any base t v) →
     DataW.Whole enc C.prog fn.params.toList s.vars false W args.toList ds gs before → W.ShapedOpen C.prog → X W args → Calls C.prog f args W fun e W' => ∃ v, e = .returned v ∧ s.post enc C.prog fn false true false false W args v W') :
   ReturnsInHanded {} C os f .any (fun w args => (s.pre enc C.prog fn [] false w args ∧ X w args) ∧ sizedMet enc C.prog fn (OpenSpec.ofChange s) false w args) (s.post enc C.prog fn false true false false) := by
 refine returnsInHanded_of_calls own started noInit witness ?_
 intro w tape i _ hsh _ hok hpre hholds
 obtain ⟨_, _, _, g, hg, _, _, _, _, hval⟩ := hok
 obtain rfl : g = fn := Option.some.inj (hg.symm.trans hfn)
 obtain ⟨⟨⟨ds, gs, before, hw, _⟩, hx⟩, _⟩ := hpre
 exact (contract _ w.heap.size i.args ds gs before hval (DataW.Whole.of_heap (by rfl) hw) hsh (hX _ _ _ (by rfl) hx)).mono fun e W' ⟨v, he, hp⟩ => by subst he; exact ChangeSpec.post_blind hp
theorem GlW.later {C : Nat} {w w' : World} (h : GlW C w) (hb : Below w.heap.size w w') : GlW C w' := fun g hg => by
 have h1 := h g hg
 exact (hb.block g (Array.getElem?_eq_some_iff.1 h1).1).trans h1
end
section
open Go.RowKit
def Bx (w : World) (b : Nat) (cs : Array Value) (T : TypeId) : Prop := w.heap[b]? = some (.cells cs T (0, 0))
theorem Bx.new (w : World) (cs : Array Value) (T : TypeId) : Bx (w.alloc (.cells cs T)) w.heap.size cs T := heap_alloc_new w _
theorem Bx.lt {w : World} {b : Nat} {cs : Array Value} {T : TypeId} (h : Bx w b cs T) : b < w.heap.size := (Array.getElem?_eq_some_iff.1 h).1
theorem Bx.below {w w1 : World} {b B : Nat} {cs : Array Value} {T : TypeId} (h : Bx w b cs T) (hb : Below B w w1) (hB : b < B) : Bx w1 b cs T := (hb.block b hB).trans h
theorem Bx.next {w w1 : World} {b : Nat} {cs : Array Value} {T : TypeId} (h : Bx w b cs T) (hb : Below w.heap.size w w1) : Bx w1 b cs T := h.below hb h.lt
theorem Bx.cell {w : World} {b : Nat} {cs : Array Value} {T : TypeId} (h : Bx w b cs T) (o : Nat) : w.cell? ⟨b, o, none⟩ = cs[o]? := cell_of_row w b o _ T (0, 0) h
theorem Bx.fro {w : World} {b : Nat} {cs : Array Value} {T : TypeId} (h : Bx w b cs T) (o : Nat) : w.frozen? ⟨b, o, none⟩ = false := by
 unfold Bx at h; simp [World.frozen?, h]
theorem Bx.set {w : World} {b : Nat} {cs : Array Value} {T : TypeId} (h : Bx w b cs T) (o : Nat) (u : Value) : Bx (w.setCell ⟨b, o, none⟩ u) b (cs.setIfInBounds o u) T := by
 unfold Bx at h ⊢
 simp [World.setCell, Array.getElem?_modify, h]
theorem below_box {w w1 : World} {o : Obj} (hb : Below (w.alloc o).heap.size (w.alloc o) w1) : Below w.heap.size w w1 :=
 ((Below.refl _ w).alloc (Nat.le_refl _) o).trans (hb.mono (by simp))
theorem own_next {w w' : World} {base e size n : Nat} {v : Value} {xs : List Value} (h : w.ownsRow base e size v n xs) (hb : Below w.heap.size w w') : w'.ownsRow base e size v n xs :=
 h.kept (row := none) ⟨hb.os, hb.tape, hb.output, hb.size, fun k hk _ => hb.block k hk⟩ (by cases v.ownBlock <;> simp)
theorem own_form {w : World} {B sz n : Nat} {e : TypeId} {v : Value} {xs : List Value} (h : w.ownsRow B e sz v n xs) : ∃ A cap, v = .slice A n cap ∧ n ≤ cap := by
 rcases h.2 with ⟨rfl, rfl⟩ | ⟨g, cap, cur, rfl, _, _, hc, _⟩
 · exact ⟨none, 0, rfl, Nat.le_refl _⟩
 · exact ⟨_, cap, rfl, hc⟩
end
section
def small (r : Int) : Bool := decide (97 ≤ r) && decide (r ≤ 122)
def big (r : Int) : Bool := decide (65 ≤ r) && decide (r ≤ 90)
def digit (r : Int) : Bool := decide (48 ≤ r) && decide (r ≤ 57)
def alnum (r : Int) : Bool := small r || (big r || digit r)
def keptWords : List (List UInt8) :=
 [[98, 111, 111, 108, 101, 97, 110], [105, 110, 116], [118, 111, 105, 100], [99, 108, 97, 115, 115], [101, 120, 116, 101, 110, 100, 115], [115, 116, 97, 116, 105, 99], [110, 101, 119], [116, 104, 105, 115], [115, 117, 112, 101, 114], [110, 117, 108, 108], [116, 114, 117, 101], [102, 97, 108, 115, 101], [105, 102], [101, 108, 115, 101], [119, 104, 105, 108, 101], [114, 101, 116, 117, 114, 110], [112, 114, 105, 110, 116], [97, 115, 115, 101, 114, 116], [116, 104, 114, 111, 119], [116, 114, 121], [99, 97, 116, 99, 104], [102, 105, 110, 97, 108, 108, 121], [97, 115], [105, 115]]
def kept (l : List UInt8) : Bool := keptWords.contains l
def letter (r : Int) : Int := if r = 10 then 110 else r
def must (r : Int) : Bool := r == 34 || (r == 92 || r == 10)
/-! ### Bytes -/
def bt (s : ByteArray) (i : Nat) : Nat := (s.get! i).toNat
theorem bt_lt (s : ByteArray) (i : Nat) : bt s i < 256 := (s.get! i).toNat_lt
theorem get_eq (s : ByteArray) (i : Nat) (h : i < s.size) : s.get! i = s[i]'h := get_at s i h
theorem bt_eq (s : ByteArray) (i : Nat) (h : i < s.size) : (s[i]'h).toNat = bt s i := by rw [bt, get_eq s i h]
/-! ### The classes of a rune's bytes -/
def C2 (n b0 b1 : Nat) : Prop := 194 ≤ b0 ∧ b0 ≤ 223 ∧ 2 ≤ n ∧ 128 ≤ b1 ∧ b1 ≤ 191
def C3 (n b0 b1 b2 : Nat) : Prop := 224 ≤ b0 ∧ b0 ≤ 239 ∧ 3 ≤ n ∧ 128 ≤ b1 ∧ b1 ≤ 191 ∧ (b0 = 224 → 160 ≤ b1) ∧ (b0 = 237 → b1 ≤ 159) ∧ 128 ≤ b2 ∧ b2 ≤ 191
def C4 (n b0 b1 b2 b3 : Nat) : Prop := 240 ≤ b0 ∧ b0 ≤ 244 ∧ 4 ≤ n ∧ 128 ≤ b1 ∧ b1 ≤ 191 ∧ (b0 = 240 → 144 ≤ b1) ∧ (b0 = 244 → b1 ≤ 143) ∧ 128 ≤ b2 ∧ b2 ≤ 191 ∧ 128 ≤ b3 ∧ b3 ≤ 191
theorem dec1 (n b0 b1 b2 b3 : Nat) (h : b0 < 128) : Lib.decodeN n b0 b1 b2 b3 = (b0, 1) := by simp [Lib.decodeN, h]
theorem dec2 (n b0 b1 b2 b3 : Nat) (h : C2 n b0 b1) : Lib.decodeN n b0 b1 b2 b3 = ((b0 - 192) * 64 + (b1 - 128), 2) := by
 obtain ⟨h1, h2, h3, h4, h5⟩ := h
 have e1 : b0 % 32 = b0 - 192 := by omega
 have e2 : b1 % 64 = b1 - 128 := by omega
 have a1 : ¬ b0 < 128 := by omega
 have a2 : b0 / 32 = 6 ∧ (1 < n ∧ b1 / 64 = 2) := by omega
 have a3 : (b0 - 192) * 64 + (b1 - 128) ≥ 128 := by omega
 simp only [Lib.decodeN, if_neg a1, if_pos a2, e1, e2, if_pos a3]
theorem dec3 (n b0 b1 b2 b3 : Nat) (h : C3 n b0 b1 b2) : Lib.decodeN n b0 b1 b2 b3 = ((b0 - 224) * 4096 + (b1 - 128) * 64 + (b2 - 128), 3) := by
 obtain ⟨h1, h2, h3, h4, h5, h6, h7, h8, h9⟩ := h
 have e1 : b0 % 16 = b0 - 224 := by omega
 have e2 : b1 % 64 = b1 - 128 := by omega
 have e3 : b2 % 64 = b2 - 128 := by omega
 have a1 : ¬ b0 < 128 := by omega
 have a2 : ¬ (b0 / 32 = 6 ∧ (1 < n ∧ b1 / 64 = 2)) := by omega
 have a3 : b0 / 16 = 14 ∧ (1 < n ∧ b1 / 64 = 2) ∧ (2 < n ∧ b2 / 64 = 2) := by omega
 have a4 : (b0 - 224) * 4096 + (b1 - 128) * 64 + (b2 - 128) ≥ 2048 ∧ ((b0 - 224) * 4096 + (b1 - 128) * 64 + (b2 - 128) < 55296 ∨ (57344 ≤ (b0 - 224) * 4096 + (b1 - 128) * 64 + (b2 - 128) ∧ (b0 - 224) * 4096 + (b1 - 128) * 64 + (b2 - 128) ≤ 1114111)) := by
   by_cases g1 : b0 = 224
   · have := h6 g1; omega
   · by_cases g2 : b0 = 237
     · have := h7 g2; omega
     · omega
 simp only [Lib.decodeN, if_neg a1, if_neg a2, if_pos a3, e1, e2, e3, if_pos a4]
theorem dec4 (n b0 b1 b2 b3 : Nat) (h : C4 n b0 b1 b2 b3) : Lib.decodeN n b0 b1 b2 b3 = ((b0 - 240) * 262144 + (b1 - 128) * 4096 + (b2 - 128) * 64 + (b3 - 128), 4) := by
 obtain ⟨h1, h2, h3, h4, h5, h6, h7, h8, h9, h10, h11⟩ := h
 have e1 : b0 % 8 = b0 - 240 := by omega
 have e2 : b1 % 64 = b1 - 128 := by omega
 have e3 : b2 % 64 = b2 - 128 := by omega
 have e4 : b3 % 64 = b3 - 128 := by omega
 have a1 : ¬ b0 < 128 := by omega
 have a2 : ¬ (b0 / 32 = 6 ∧ (1 < n ∧ b1 / 64 = 2)) := by omega
 have a3 : ¬ (b0 / 16 = 14 ∧ (1 < n ∧ b1 / 64 = 2) ∧ (2 < n ∧ b2 / 64 = 2)) := by omega
 have a4 : b0 / 8 = 30 ∧ (1 < n ∧ b1 / 64 = 2) ∧ (2 < n ∧ b2 / 64 = 2) ∧ (3 < n ∧ b3 / 64 = 2) := by omega
 have a5 : (b0 - 240) * 262144 + (b1 - 128) * 4096 + (b2 - 128) * 64 + (b3 - 128) ≥ 65536 ∧ ((b0 - 240) * 262144 + (b1 - 128) * 4096 + (b2 - 128) * 64 + (b3 - 128) < 55296 ∨ (57344 ≤ (b0 - 240) * 262144 + (b1 - 128) * 4096 + (b2 - 128) * 64 + (b3 - 128) ∧ (b0 - 240) * 262144 + (b1 - 128) * 4096 + (b2 - 128) * 64 + (b3 - 128) ≤ 1114111)) := by
   by_cases g1 : b0 = 240
   · have := h6 g1; omega
   · by_cases g2 : b0 = 244
     · have := h7 g2; omega
     · omega
 simp only [Lib.decodeN, if_neg a1, if_neg a2, if_neg a3, if_pos a4, e1, e2, e3, e4, if_pos a5]
theorem dec0 (n b0 b1 b2 b3 : Nat) (i0 : b0 < 256) (i1 : b1 < 256) (i2 : b2 < 256) (i3 : b3 < 256) (h : 128 ≤ b0) (h2 : ¬ C2 n b0 b1) (h3 : ¬ C3 n b0 b1 b2) (h4 : ¬ C4 n b0 b1 b2 b3) : Lib.decodeN n b0 b1 b2 b3 = (65533, 1) := by
 have a1 : ¬ b0 < 128 := by omega
 unfold C2 at h2
 unfold C3 at h3
 unfold C4 at h4
 simp only [Lib.decodeN, if_neg a1]
 split
 · rw [if_neg (by omega)]
 · split
   · rw [if_neg]
     intro hh
     apply h3
     refine ⟨by omega, by omega, by omega, by omega, by omega, fun g => ?_, fun g => ?_, by omega, by omega⟩ <;> omega
   · split
     · rw [if_neg]
       intro hh
       apply h4
       refine ⟨by omega, by omega, by omega, by omega, by omega, fun g => ?_, fun g => ?_, by omega, by omega, by omega, by omega⟩ <;> omega
     · rfl
/-! ### The rune at a place -/
theorem decode_bt (s : ByteArray) (p : Nat) : Utf8.decode s p = Lib.decodeN (s.size - p) (bt s p) (bt s (p + 1)) (bt s (p + 2)) (bt s (p + 3)) := Lib.decode_at s p
def badAt (s : ByteArray) (p : Nat) : Bool := (Utf8.decode s p).1 == 65533 && (Utf8.decode s p).2 == 1
def K2 (s : ByteArray) (p : Nat) : Prop := C2 (s.size - p) (bt s p) (bt s (p + 1))
def K3 (s : ByteArray) (p : Nat) : Prop := C3 (s.size - p) (bt s p) (bt s (p + 1)) (bt s (p + 2))
def K4 (s : ByteArray) (p : Nat) : Prop := C4 (s.size - p) (bt s p) (bt s (p + 1)) (bt s (p + 2)) (bt s (p + 3))
theorem dcases (s : ByteArray) (p : Nat) :
   (bt s p < 128 ∧ Utf8.decode s p = (bt s p, 1)) ∨
   (K2 s p ∧ Utf8.decode s p = ((bt s p - 192) * 64 + (bt s (p + 1) - 128), 2)) ∨
   (K3 s p ∧ Utf8.decode s p = ((bt s p - 224) * 4096 + (bt s (p + 1) - 128) * 64 + (bt s (p + 2) - 128), 3)) ∨
   (K4 s p ∧ Utf8.decode s p = ((bt s p - 240) * 262144 + (bt s (p + 1) - 128) * 4096 + (bt s (p + 2) - 128) * 64 + (bt s (p + 3) - 128), 4)) ∨
   (128 ≤ bt s p ∧ ¬ K2 s p ∧ ¬ K3 s p ∧ ¬ K4 s p ∧ Utf8.decode s p = (65533, 1)) := by
 rw [decode_bt]
 by_cases h1 : bt s p < 128
 · exact .inl ⟨h1, dec1 _ _ _ _ _ h1⟩
 · by_cases h2 : K2 s p
   · exact .inr (.inl ⟨h2, dec2 _ _ _ _ _ h2⟩)
   · by_cases h3 : K3 s p
     · exact .inr (.inr (.inl ⟨h3, dec3 _ _ _ _ _ h3⟩))
     · by_cases h4 : K4 s p
       · exact .inr (.inr (.inr (.inl ⟨h4, dec4 _ _ _ _ _ h4⟩)))
       · exact .inr (.inr (.inr (.inr ⟨by omega, h2, h3, h4, dec0 _ _ _ _ _ (bt_lt _ _) (bt_lt _ _) (bt_lt _ _) (bt_lt _ _) (by omega) h2 h3 h4⟩)))
theorem wid_pos (s : ByteArray) (p : Nat) : 1 ≤ (Utf8.decode s p).2 := by
 rcases dcases s p with ⟨_, e⟩ | ⟨_, e⟩ | ⟨_, e⟩ | ⟨_, e⟩ | ⟨_, _, _, _, e⟩ <;> rw [e] <;> simp
theorem wid_le (s : ByteArray) (p : Nat) (h : p < s.size) : p + (Utf8.decode s p).2 ≤ s.size := by
 rcases dcases s p with ⟨_, e⟩ | ⟨k, e⟩ | ⟨k, e⟩ | ⟨k, e⟩ | ⟨_, _, _, _, e⟩ <;> rw [e]
 · simp; omega
 · obtain ⟨_, _, k, _⟩ := k; simp; omega
 · obtain ⟨_, _, k, _⟩ := k; simp; omega
 · obtain ⟨_, _, k, _⟩ := k; simp; omega
 · simp; omega
theorem badAt_eq {s : ByteArray} {p : Nat} (h : badAt s p = true) : Utf8.decode s p = (65533, 1) := by
 simp [badAt] at h; exact Prod.ext h.1 h.2
theorem badAt_of {s : ByteArray} {p : Nat} (h : Utf8.decode s p = (65533, 1)) : badAt s p = true := by simp [badAt, h]
theorem badAt_not {s : ByteArray} {p : Nat} (h : Utf8.decode s p ≠ (65533, 1)) : badAt s p = false := by
 rw [Bool.eq_false_iff]; exact fun e => h (badAt_eq e)
theorem low_iff (s : ByteArray) (p : Nat) (h : (Utf8.decode s p).1 < 128) : bt s p = (Utf8.decode s p).1 ∧ (Utf8.decode s p).2 = 1 := by
 rcases dcases s p with ⟨_, e⟩ | ⟨k, e⟩ | ⟨k, e⟩ | ⟨k, e⟩ | ⟨_, _, _, _, e⟩ <;> rw [e] at h ⊢
 · exact ⟨rfl, rfl⟩
 · obtain ⟨h1, h2, h3, h4, h5⟩ := k; simp at h; omega
 · obtain ⟨h1, h2, h3, h4, h5, h6, h7, h8, h9⟩ := k; simp at h
   by_cases g : bt s p = 224
   · have := h6 g; omega
   · omega
 · obtain ⟨h1, h2, h3, h4, h5, h6, h7, h8, h9, h10, h11⟩ := k; simp at h
   by_cases g : bt s p = 240
   · have := h6 g; omega
   · omega
 · simp at h
theorem low_of (s : ByteArray) (p : Nat) (h : bt s p < 128) : Utf8.decode s p = (bt s p, 1) := by
 rcases dcases s p with ⟨_, e⟩ | ⟨k, e⟩ | ⟨k, e⟩ | ⟨k, e⟩ | ⟨g, _, _, _, e⟩
 · exact e
 · have := k.1; omega
 · have := k.1; omega
 · have := k.1; omega
 · omega
theorem high_of (s : ByteArray) (p : Nat) (h : 128 ≤ bt s p) : 128 ≤ (Utf8.decode s p).1 := by
 by_cases g : (Utf8.decode s p).1 < 128
 · have := low_iff s p g; omega
 · omega
theorem badAt_low (s : ByteArray) (p : Nat) (h : bt s p < 128) : badAt s p = false := by
 apply badAt_not; rw [low_of s p h]; intro e; injection e with e1 e2; omega
theorem rune_ok (s : ByteArray) (p : Nat) : (Utf8.decode s p).1 < 55296 ∨ (57344 ≤ (Utf8.decode s p).1 ∧ (Utf8.decode s p).1 ≤ 1114111) := by
 rcases dcases s p with ⟨_, e⟩ | ⟨k, e⟩ | ⟨k, e⟩ | ⟨k, e⟩ | ⟨_, _, _, _, e⟩ <;> rw [e]
 · left; have := bt_lt s p; simp; omega
 · obtain ⟨h1, h2, h3, h4, h5⟩ := k; left; simp; omega
 · obtain ⟨h1, h2, h3, h4, h5, h6, h7, h8, h9⟩ := k; simp
   by_cases g : bt s p = 237
   · have := h7 g; omega
   · omega
 · obtain ⟨h1, h2, h3, h4, h5, h6, h7, h8, h9, h10, h11⟩ := k; simp
   by_cases g : bt s p = 244
   · have := h7 g; omega
   · by_cases g : bt s p = 240
     · have := h6 g; omega
     · omega
 · right; simp
/-! ### A part of a text -/
def sub (s : ByteArray) (p k : Nat) : List UInt8 := (s.data.toList.drop p).take k
theorem sub_zero (s : ByteArray) (p : Nat) : sub s p 0 = [] := by simp [sub]
theorem sub_succ (s : ByteArray) (p k : Nat) (h : p + k < s.size) : sub s p (k + 1) = sub s p k ++ [s.get! (p + k)] := by
 have hl : k < (s.data.toList.drop p).length := by simp; have : s.data.size = s.size := rfl; omega
 rw [sub, List.take_succ_eq_append_getElem hl, sub]
 congr 1
 rw [get_eq s (p + k) h, List.getElem_drop]
 rfl
theorem toU8 (b : UInt8) (x : Int) (h : x = b.toNat) : x.toNat.toUInt8 = b := by subst h; simp
theorem enc_ok (s : ByteArray) (p : Nat) (h : p < s.size) (hb : badAt s p = false) : Lib.encodeRune (Utf8.decode s p).1 = sub s p (Utf8.decode s p).2 := by
 rcases dcases s p with ⟨k, e⟩ | ⟨k, e⟩ | ⟨k, e⟩ | ⟨k, e⟩ | ⟨_, _, _, _, e⟩
 · rw [e, sub_succ s p 0 (by omega), sub_zero, Lib.encodeRune, Lib.encodeRuneZ_one (by omega) (by omega)]
   simp [bt]
 · obtain ⟨h1, h2, h3, h4, h5⟩ := k
   rw [e, sub_succ s p 1 (by omega), sub_succ s p 0 (by omega), sub_zero, Lib.encodeRune, Lib.encodeRuneZ_two (by simp; omega) (by simp; omega)]
   simp only [List.map_cons, List.map_nil, List.nil_append, List.cons_append, Nat.add_zero]
   rw [toU8 (s.get! p) _ (by simp only [bt] at *; omega), toU8 (s.get! (p + 1)) _ (by simp only [bt] at *; omega)]
 · obtain ⟨h1, h2, h3, h4, h5, h6, h7, h8, h9⟩ := k
   have hr := rune_ok s p
   rw [e] at hr
   have g1 : 2048 ≤ (bt s p - 224) * 4096 + (bt s (p + 1) - 128) * 64 + (bt s (p + 2) - 128) := by
     by_cases g : bt s p = 224
     · have := h6 g; omega
     · omega
   rw [e, sub_succ s p 2 (by omega), sub_succ s p 1 (by omega), sub_succ s p 0 (by omega), sub_zero, Lib.encodeRune, Lib.encodeRuneZ_three (by simp only [] at *; omega)]
   simp only [List.map_cons, List.map_nil, List.nil_append, List.cons_append, Nat.add_zero]
   rw [toU8 (s.get! p) _ (by simp only [bt] at *; omega), toU8 (s.get! (p + 1)) _ (by simp only [bt] at *; omega), toU8 (s.get! (p + 2)) _ (by simp only [bt] at *; omega)]
 · obtain ⟨h1, h2, h3, h4, h5, h6, h7, h8, h9, h10, h11⟩ := k
   have hr := rune_ok s p
   rw [e] at hr
   have g1 : 65536 ≤ (bt s p - 240) * 262144 + (bt s (p + 1) - 128) * 4096 + (bt s (p + 2) - 128) * 64 + (bt s (p + 3) - 128) := by
     by_cases g : bt s p = 240
     · have := h6 g; omega
     · omega
   rw [e, sub_succ s p 3 (by omega), sub_succ s p 2 (by omega), sub_succ s p 1 (by omega), sub_succ s p 0 (by omega), sub_zero, Lib.encodeRune, Lib.encodeRuneZ_four (by simp only [] at *; omega) (by simp only [] at *; omega)]
   simp only [List.map_cons, List.map_nil, List.nil_append, List.cons_append, Nat.add_zero]
   rw [toU8 (s.get! p) _ (by simp only [bt] at *; omega), toU8 (s.get! (p + 1)) _ (by simp only [bt] at *; omega), toU8 (s.get! (p + 2)) _ (by simp only [bt] at *; omega), toU8 (s.get! (p + 3)) _ (by simp only [bt] at *; omega)]
 · rw [badAt_of e] at hb; cases hb
theorem enc_bad (s : ByteArray) (p : Nat) (hb : badAt s p = true) : Lib.encodeRune (Utf8.decode s p).1 = [239, 191, 189] := by
 rw [badAt_eq hb]; decide
end
section
/-! ### The runes of a text, from a place on -/
def runesF (s : ByteArray) : Nat → Nat → List Nat
 | 0, _ => []
 | f + 1, p => if p < s.size then (Utf8.decode s p).1 :: runesF s f (p + (Utf8.decode s p).2) else []
def runes (s : ByteArray) (p : Nat) : List Nat := runesF s (s.size - p) p
theorem runesF_end (s : ByteArray) (f p : Nat) (h : ¬ p < s.size) : runesF s f p = [] := by
 cases f with
 | zero => rfl
 | succ f => simp [runesF, h]
theorem runesF_eq (s : ByteArray) : ∀ (f g p : Nat), s.size ≤ p + f → s.size ≤ p + g → runesF s f p = runesF s g p
 | 0, g, p, hf, hg => by rw [runesF_end s 0 p (by omega), runesF_end s g p (by omega)]
 | f + 1, 0, p, hf, hg => by rw [runesF_end s (f + 1) p (by omega), runesF_end s 0 p (by omega)]
 | f + 1, g + 1, p, hf, hg => by
   have := wid_pos s p
   simp only [runesF]
   rw [runesF_eq s f g (p + (Utf8.decode s p).2) (by omega) (by omega)]
theorem runes_end (s : ByteArray) (p : Nat) (h : ¬ p < s.size) : runes s p = [] := runesF_end s _ p h
theorem runes_step (s : ByteArray) (p : Nat) (h : p < s.size) : runes s p = (Utf8.decode s p).1 :: runes s (p + (Utf8.decode s p).2) := by
 have := wid_pos s p
 unfold runes
 obtain ⟨f, hf⟩ : ∃ f, s.size - p = f + 1 := ⟨s.size - p - 1, by omega⟩
 rw [hf]
 simp only [runesF, h, if_true]
 rw [runesF_eq s f (s.size - (p + (Utf8.decode s p).2)) _ (by omega) (by omega)]
/-! ### The first place that is no UTF-8, from a place on -/
def badF (s : ByteArray) : Nat → Nat → Int
 | 0, _ => -1
 | f + 1, p => if p < s.size then (if badAt s p then (p : Int) else badF s f (p + (Utf8.decode s p).2)) else -1
def badFrom (s : ByteArray) (p : Nat) : Int := badF s (s.size - p) p
def bad (s : ByteArray) : Int := badF s s.size 0
theorem badF_end (s : ByteArray) (f p : Nat) (h : ¬ p < s.size) : badF s f p = -1 := by
 cases f with
 | zero => rfl
 | succ f => simp [badF, h]
theorem badF_eq (s : ByteArray) : ∀ (f g p : Nat), s.size ≤ p + f → s.size ≤ p + g → badF s f p = badF s g p
 | 0, g, p, hf, hg => by rw [badF_end s 0 p (by omega), badF_end s g p (by omega)]
 | f + 1, 0, p, hf, hg => by rw [badF_end s (f + 1) p (by omega), badF_end s 0 p (by omega)]
 | f + 1, g + 1, p, hf, hg => by
   have := wid_pos s p
   simp only [badF]
   rw [badF_eq s f g (p + (Utf8.decode s p).2) (by omega) (by omega)]
theorem bad_zero (s : ByteArray) : bad s = badFrom s 0 := rfl
theorem badFrom_end (s : ByteArray) (p : Nat) (h : ¬ p < s.size) : badFrom s p = -1 := badF_end s _ p h
theorem badFrom_at (s : ByteArray) (p : Nat) (h : p < s.size) (hb : badAt s p = true) : badFrom s p = p := by
 unfold badFrom
 obtain ⟨f, hf⟩ : ∃ f, s.size - p = f + 1 := ⟨s.size - p - 1, by omega⟩
 rw [hf]; simp only [badF, h, hb, if_true]
theorem badFrom_step (s : ByteArray) (p : Nat) (h : p < s.size) (hb : badAt s p = false) : badFrom s p = badFrom s (p + (Utf8.decode s p).2) := by
 have := wid_pos s p
 unfold badFrom
 obtain ⟨f, hf⟩ : ∃ f, s.size - p = f + 1 := ⟨s.size - p - 1, by omega⟩
 rw [hf]
 simp only [badF, h, hb, if_true]
 rw [badF_eq s f (s.size - (p + (Utf8.decode s p).2)) _ (by omega) (by omega)]
 simp
theorem badF_range (s : ByteArray) : ∀ f p, badF s f p = -1 ∨ ((p : Int) ≤ badF s f p ∧ badF s f p < s.size)
 | 0, p => .inl rfl
 | f + 1, p => by
   simp only [badF]
   split
   · split
     · right; omega
     · rcases badF_range s f (p + (Utf8.decode s p).2) with h | h
       · exact .inl h
       · right; omega
   · exact .inl rfl
theorem badFrom_range (s : ByteArray) (p : Nat) : badFrom s p = -1 ∨ ((p : Int) ≤ badFrom s p ∧ badFrom s p < s.size) := badF_range s _ p
/-! ### Runes that can be, and their bytes -/
def okRune (r : Nat) : Prop := r < 55296 ∨ (57344 ≤ r ∧ r ≤ 1114111)
theorem runesF_ok (s : ByteArray) : ∀ f p, ∀ r ∈ runesF s f p, okRune r
 | 0, p, r, h => by simp [runesF] at h
 | f + 1, p, r, h => by
   simp only [runesF] at h
   split at h
   · rcases List.mem_cons.1 h with rfl | h
     · exact rune_ok s p
     · exact runesF_ok s f _ r h
   · simp at h
theorem runes_ok (s : ByteArray) (p : Nat) : ∀ r ∈ runes s p, okRune r := runesF_ok s _ p
def encs (l : List Nat) : List UInt8 := l.flatMap fun r : Nat => Lib.encodeRune (r : Int)
theorem encs_nil : encs [] = [] := rfl
theorem encs_cons (r : Nat) (l : List Nat) : encs (r :: l) = Lib.encodeRune (r : Int) ++ encs l := by simp [encs]
theorem encs_append (a b : List Nat) : encs (a ++ b) = encs a ++ encs b := by simp [encs]
theorem enc_len (r : Int) : 1 ≤ (Lib.encodeRune r).length ∧ (Lib.encodeRune r).length ≤ 4 := by
 have := Lib.encodeRuneZ_length r; simpa [Lib.encodeRune] using this
theorem get_list (l : List UInt8) (i : Nat) (b : UInt8) (h : l[i]? = some b) : bt ⟨l.toArray⟩ i = b.toNat := by
 have hl : i < l.length := (List.getElem?_eq_some_iff.1 h).1
 have hs : i < (⟨l.toArray⟩ : ByteArray).size := by simpa [ByteArray.size] using hl
 rw [bt, get_eq _ i hs]
 congr 1
 have : l[i] = b := (List.getElem?_eq_some_iff.1 h).2
 rw [← this]
 rfl
theorem size_list (l : List UInt8) : (⟨l.toArray⟩ : ByteArray).size = l.length := by simp [ByteArray.size]
theorem bt_enc (a b c : List UInt8) (i : Nat) (x : UInt8) (h : b[i]? = some x) : bt ⟨(a ++ (b ++ c)).toArray⟩ (a.length + i) = x.toNat := by
 apply get_list
 have hi : i < b.length := (List.getElem?_eq_some_iff.1 h).1
 rw [List.getElem?_append_right (by omega), List.getElem?_append_left (by omega)]
 rw [show a.length + i - a.length = i from by omega]; exact h
theorem u8v (x : Int) (h0 : 0 ≤ x) (h1 : x < 256) : ((x.toNat.toUInt8).toNat : Int) = x := by
 simp; omega
theorem dec_enc (a c : List UInt8) (r : Nat) (hr : okRune r) :
   Utf8.decode ⟨(a ++ (Lib.encodeRune (r : Int) ++ c)).toArray⟩ a.length = (r, (Lib.encodeRune (r : Int)).length) := by
 have hsz := size_list (a ++ (Lib.encodeRune (r : Int) ++ c))
 rw [decode_bt]
 unfold okRune at hr
 by_cases h1 : r < 128
 · have e : Lib.encodeRune (r : Int) = [((r : Int)).toNat.toUInt8] := by rw [Lib.encodeRune, Lib.encodeRuneZ_one (by omega) (by omega)]; rfl
   have b0 : bt ⟨(a ++ (Lib.encodeRune (r : Int) ++ c)).toArray⟩ a.length = r := by
     have := bt_enc a (Lib.encodeRune (r : Int)) c 0 _ (by rw [e]; rfl)
     have u := u8v (r : Int) (by omega) (by omega)
     rw [Nat.add_zero] at this; omega
   rw [dec1 _ _ _ _ _ (by omega), b0, e]; rfl
 · by_cases h2 : r < 2048
   · have e : Lib.encodeRune (r : Int) = [(192 + (r : Int) / 64).toNat.toUInt8, (128 + (r : Int) % 64).toNat.toUInt8] := by rw [Lib.encodeRune, Lib.encodeRuneZ_two (by omega) (by omega)]; rfl
     have b0 := bt_enc a (Lib.encodeRune (r : Int)) c 0 _ (by rw [e]; rfl)
     have b1 := bt_enc a (Lib.encodeRune (r : Int)) c 1 _ (by rw [e]; rfl)
     have u0 := u8v (192 + (r : Int) / 64) (by omega) (by omega)
     have u1 := u8v (128 + (r : Int) % 64) (by omega) (by omega)
     rw [Nat.add_zero] at b0
     have hl : (Lib.encodeRune (r : Int)).length = 2 := by rw [e]; rfl
     rw [hsz, List.length_append, List.length_append, hl, dec2 _ _ _ _ _ ⟨by omega, by omega, by omega, by omega, by omega⟩]
     exact Prod.ext (by simp only []; omega) rfl
   · by_cases h3 : r < 65536
     · have e : Lib.encodeRune (r : Int) = [(224 + (r : Int) / 4096).toNat.toUInt8, (128 + (r : Int) / 64 % 64).toNat.toUInt8, (128 + (r : Int) % 64).toNat.toUInt8] := by rw [Lib.encodeRune, Lib.encodeRuneZ_three (by omega)]; rfl
       have b0 := bt_enc a (Lib.encodeRune (r : Int)) c 0 _ (by rw [e]; rfl)
       have b1 := bt_enc a (Lib.encodeRune (r : Int)) c 1 _ (by rw [e]; rfl)
       have b2 := bt_enc a (Lib.encodeRune (r : Int)) c 2 _ (by rw [e]; rfl)
       have u0 := u8v (224 + (r : Int) / 4096) (by omega) (by omega)
       have u1 := u8v (128 + (r : Int) / 64 % 64) (by omega) (by omega)
       have u2 := u8v (128 + (r : Int) % 64) (by omega) (by omega)
       rw [Nat.add_zero] at b0
       have hl : (Lib.encodeRune (r : Int)).length = 3 := by rw [e]; rfl
       rw [hsz, List.length_append, List.length_append, hl, dec3 _ _ _ _ _ ⟨by omega, by omega, by omega, by omega, by omega, by omega, by omega, by omega, by omega⟩]
       exact Prod.ext (by simp only []; omega) rfl
     · have e : Lib.encodeRune (r : Int) = [(240 + (r : Int) / 262144).toNat.toUInt8, (128 + (r : Int) / 4096 % 64).toNat.toUInt8, (128 + (r : Int) / 64 % 64).toNat.toUInt8, (128 + (r : Int) % 64).toNat.toUInt8] := by rw [Lib.encodeRune, Lib.encodeRuneZ_four (by omega) (by omega)]; rfl
       have b0 := bt_enc a (Lib.encodeRune (r : Int)) c 0 _ (by rw [e]; rfl)
       have b1 := bt_enc a (Lib.encodeRune (r : Int)) c 1 _ (by rw [e]; rfl)
       have b2 := bt_enc a (Lib.encodeRune (r : Int)) c 2 _ (by rw [e]; rfl)
       have b3 := bt_enc a (Lib.encodeRune (r : Int)) c 3 _ (by rw [e]; rfl)
       have u0 := u8v (240 + (r : Int) / 262144) (by omega) (by omega)
       have u1 := u8v (128 + (r : Int) / 4096 % 64) (by omega) (by omega)
       have u2 := u8v (128 + (r : Int) / 64 % 64) (by omega) (by omega)
       have u3 := u8v (128 + (r : Int) % 64) (by omega) (by omega)
       rw [Nat.add_zero] at b0
       have hl : (Lib.encodeRune (r : Int)).length = 4 := by rw [e]; rfl
       rw [hsz, List.length_append, List.length_append, hl, dec4 _ _ _ _ _ ⟨by omega, by omega, by omega, by omega, by omega, by omega, by omega, by omega, by omega, by omega, by omega⟩]
       exact Prod.ext (by simp only []; omega) rfl
theorem badAt_enc (a c : List UInt8) (r : Nat) (hr : okRune r) : badAt ⟨(a ++ (Lib.encodeRune (r : Int) ++ c)).toArray⟩ a.length = false := by
 apply badAt_not
 rw [dec_enc a c r hr]
 intro e
 injection e with e1 e2
 subst e1
 revert e2; decide
theorem runes_encs : ∀ (l : List Nat) (a : List UInt8), (∀ r ∈ l, okRune r) → runes ⟨(a ++ encs l).toArray⟩ a.length = l ∧ badFrom ⟨(a ++ encs l).toArray⟩ a.length = -1
 | [], a, _ => by
   have hsz := size_list (a ++ encs [])
   have : ¬ a.length < (⟨(a ++ encs []).toArray⟩ : ByteArray).size := by rw [hsz]; simp [encs]
   exact ⟨runes_end _ _ this, badFrom_end _ _ this⟩
 | r :: l, a, h => by
   have hr : okRune r := h r (by simp)
   have hl : ∀ r ∈ l, okRune r := fun x hx => h x (by simp [hx])
   have e : a ++ encs (r :: l) = a ++ (Lib.encodeRune (r : Int) ++ encs l) := by rw [encs_cons]
   have e2 : a ++ encs (r :: l) = (a ++ Lib.encodeRune (r : Int)) ++ encs l := by rw [encs_cons, List.append_assoc]
   have d := dec_enc a (encs l) r hr
   have nb := badAt_enc a (encs l) r hr
   have le := enc_len (r : Int)
   have hp : a.length < (⟨(a ++ encs (r :: l)).toArray⟩ : ByteArray).size := by rw [size_list, e]; simp only [List.length_append]; omega
   have ih := runes_encs l (a ++ Lib.encodeRune (r : Int)) hl
   rw [List.length_append, ← e2] at ih
   rw [← e] at d nb
   refine ⟨?_, ?_⟩
   · rw [runes_step _ _ hp, d]; simp only []; rw [ih.1]
   · rw [badFrom_step _ _ hp nb, d]; exact ih.2
theorem encs_runes (s : ByteArray) : ∀ (k p : Nat), s.size - p ≤ k → badFrom s p = -1 → encs (runes s p) = s.data.toList.drop p
 | 0, p, hk, hb => by
   rw [runes_end s p (by omega)]
   rw [List.drop_of_length_le]; rfl
   have : s.data.toList.length = s.size := by simp
   omega
 | k + 1, p, hk, hb => by
   have hlen : s.data.toList.length = s.size := by simp
   by_cases hp : p < s.size
   · have hw := wid_pos s p
     have nb : badAt s p = false := by
       rw [Bool.eq_false_iff]; intro h; rw [badFrom_at s p hp h] at hb; omega
     rw [badFrom_step s p hp nb] at hb
     rw [runes_step s p hp, encs_cons, encs_runes s k _ (by omega) hb, enc_ok s p hp nb, sub]
     rw [← List.drop_drop, List.take_append_drop]
   · rw [runes_end s p hp, List.drop_of_length_le (by omega)]; rfl
theorem encs_runes_all (s : ByteArray) (h : bad s = -1) : encs (runes s 0) = s.data.toList := by
 have := encs_runes s s.size 0 (by omega) (by rw [← bad_zero]; exact h); simpa using this
/-! ### Quotes -/
def letterN (r : Nat) : Nat := if r = 10 then 110 else r
def mustN (r : Nat) : Bool := r == 34 || (r == 92 || r == 10)
def qr (r : Nat) : List Nat := if mustN r then [92, letterN r] else [r]
def quoteFrom (s : ByteArray) (p : Nat) : List UInt8 := encs ((runes s p).flatMap qr)
def quote (s : ByteArray) : List UInt8 := [34] ++ (quoteFrom s 0 ++ [34])
theorem letter_cast (r : Nat) : letter (r : Int) = (letterN r : Nat) := by unfold letter letterN; split <;> split <;> omega
theorem must_cast (r : Nat) : must (r : Int) = mustN r := by
 unfold must mustN
 have a : ∀ k : Nat, ((r : Int) == (k : Int)) = (r == k) := fun k => by rw [Bool.eq_iff_iff]; simp; omega
 rw [← a 34, ← a 92, ← a 10]; rfl
theorem quoteFrom_step (s : ByteArray) (p : Nat) (h : p < s.size) : quoteFrom s p = (if mustN (Utf8.decode s p).1 then [92] else []) ++ (Lib.encodeRune (letterN (Utf8.decode s p).1 : Nat) ++ quoteFrom s (p + (Utf8.decode s p).2)) := by
 unfold quoteFrom
 rw [runes_step s p h, List.flatMap_cons, encs_append, qr]
 split
 · have e92 : Lib.encodeRune ((92 : Nat) : Int) = [92] := by decide
   rw [encs_cons, encs_cons, encs_nil, e92]; simp
 · rename_i hm
   have : letterN (Utf8.decode s p).1 = (Utf8.decode s p).1 := by
     unfold letterN; rw [if_neg]; intro e; rw [e] at hm; exact hm (by decide)
   rw [encs_cons, encs_nil, this]; simp
theorem quoteFrom_end (s : ByteArray) (p : Nat) (h : ¬ p < s.size) : quoteFrom s p = [] := by unfold quoteFrom; rw [runes_end s p h]; rfl
/-! ### What a quote stands for -/
def plainL : Bool → List Nat → Option (List Nat)
 | esc, [] => if esc then none else some []
 | false, r :: t => if r = 92 then plainL true t else if r = 34 ∨ r = 10 then none else (plainL false t).map (r :: ·)
 | true, r :: t => if r = 110 then (plainL false t).map (10 :: ·) else if r = 34 ∨ r = 92 then (plainL false t).map (r :: ·) else none
def plain (s : ByteArray) : Option (List UInt8) := if 0 ≤ bad s then none else (plainL false (runes s 0)).map encs
def plainText (s : ByteArray) : List UInt8 := (plain s).getD []
def plainOk (s : ByteArray) : Bool := (plain s).isSome
theorem qr_ok (r : Nat) (h : okRune r) : ∀ x ∈ qr r, okRune x := by
 intro x hx
 unfold qr at hx
 split at hx
 · simp at hx
   rcases hx with rfl | rfl
   · left; omega
   · unfold letterN; split
     · left; omega
     · exact h
 · simp at hx; subst hx; exact h
theorem qrs_ok (l : List Nat) (h : ∀ r ∈ l, okRune r) : ∀ x ∈ l.flatMap qr, okRune x := by
 intro x hx
 obtain ⟨r, hr, hx⟩ := List.mem_flatMap.1 hx
 exact qr_ok r (h r hr) x hx
theorem plainL_qr : ∀ l : List Nat, plainL false (l.flatMap qr) = some l
 | [] => rfl
 | r :: l => by
   rw [List.flatMap_cons, qr]
   have ih := plainL_qr l
   by_cases h34 : r = 34
   · subst h34; simp [mustN, letterN, plainL, ih]
   · by_cases h92 : r = 92
     · subst h92; simp [mustN, letterN, plainL, ih]
     · by_cases h10 : r = 10
       · subst h10; simp [mustN, letterN, plainL, ih]
       · simp [mustN, plainL, ih, h34, h92, h10]
theorem runes_of_encs (l : List Nat) (h : ∀ r ∈ l, okRune r) : runes ⟨(encs l).toArray⟩ 0 = l ∧ bad ⟨(encs l).toArray⟩ = -1 := by
 have := runes_encs l [] h
 rw [bad_zero]
 simpa using this
theorem plain_inner (s : ByteArray) : plain ⟨(quoteFrom s 0).toArray⟩ = some (encs (runes s 0)) := by
 have h := runes_of_encs ((runes s 0).flatMap qr) (qrs_ok _ (runes_ok s 0))
 unfold plain quoteFrom
 rw [h.2, h.1, plainL_qr]
 rfl
theorem back_same (s : ByteArray) (h : bad s < 0) : encs (runes s 0) = s.data.toList := by
 apply encs_runes_all
 rcases badFrom_range s 0 with g | g
 · rw [bad_zero]; exact g
 · rw [bad_zero] at h; omega
def means (r : Int) (esc : Bool) : Bool := if esc then r == 110 || (r == 34 || r == 92) else !(must r)
def meant (r : Int) (esc : Bool) : Int := if means r esc then (if esc && r == 110 then 10 else r) else 0
/-! ### Parts of a text, as the walk spells them -/
theorem extract_list (s : ByteArray) (a b : Nat) : (s.extract a b).data.toList = (s.data.toList.drop a).take (b - a) := by
 simp [ByteArray.data_extract, Array.toList_extract, List.extract]
theorem extract_sub (s : ByteArray) (a b : Nat) : (s.extract a b).data.toList = sub s a (b - a) := extract_list s a b
theorem drop_extract (s : ByteArray) (a : Nat) : (s.extract a s.size).data.toList = s.data.toList.drop a := by
 rw [extract_list, List.take_of_length_le]; simp
theorem fffd_good (s : ByteArray) (p : Nat) (h : p < s.size) (hr : (Utf8.decode s p).1 = 65533) (hb : badAt s p = false) : Lib.hasPrefix (s.extract p s.size).data.toList [239, 191, 189] = true := by
 have e := enc_ok s p h hb
 rw [hr] at e
 have e2 : Lib.encodeRune ((65533 : Nat) : Int) = [239, 191, 189] := by decide
 rw [e2] at e
 rw [drop_extract, Lib.hasPrefix, List.isPrefixOf_iff_prefix, e]
 exact List.take_prefix _ _
theorem drop_get (s : ByteArray) (p k : Nat) (x : UInt8) (h : (s.data.toList.drop p)[k]? = some x) : bt s (p + k) = x.toNat ∧ p + k < s.size := by
 rw [List.getElem?_drop] at h
 have hl := (List.getElem?_eq_some_iff.1 h).1
 have hs : s.data.toList.length = s.size := by simp
 refine ⟨?_, by omega⟩
 have := get_list s.data.toList (p + k) x h
 simpa using this
theorem fffd_bad (s : ByteArray) (p : Nat) (hb : badAt s p = true) : Lib.hasPrefix (s.extract p s.size).data.toList [239, 191, 189] = false := by
 rw [Bool.eq_false_iff]
 intro h
 rw [drop_extract, Lib.hasPrefix, List.isPrefixOf_iff_prefix] at h
 obtain ⟨t, ht⟩ := h
 have g0 := drop_get s p 0 239 (by rw [← ht]; rfl)
 have g1 := drop_get s p 1 191 (by rw [← ht]; rfl)
 have g2 := drop_get s p 2 189 (by rw [← ht]; rfl)
 have k : K3 s p := by
   rw [Nat.add_zero] at g0
   have a0 := g0.1; have a1 := g1.1; have a2 := g2.1
   simp at a0 a1 a2
   exact ⟨by omega, by omega, by omega, by omega, by omega, by omega, by omega, by omega, by omega⟩
 rcases dcases s p with ⟨k1, _⟩ | ⟨k1, _⟩ | ⟨_, e⟩ | ⟨k1, _⟩ | ⟨_, _, k1, _⟩
 · have := k.1; omega
 · have := k.1; have := k1.2.1; omega
 · rw [badAt_eq hb] at e; injection e with e1 e2; omega
 · have := k.2.1; have := k1.1; omega
 · exact k1 k
/-! ### Names -/
def allAl (s : ByteArray) (p : Nat) : Bool := (s.data.toList.drop p).all fun b => alnum (b.toNat : Int)
def shape (first : Int → Bool) (s : ByteArray) : Bool := decide (1 ≤ s.size) && (decide (s.size ≤ 20) && (first (bt s 0) && allAl s 0))
theorem allAl_step (s : ByteArray) (p : Nat) (h : p < s.size) : allAl s p = (alnum (bt s p) && allAl s (p + 1)) := by
 have hl : p < s.data.toList.length := by simp; exact h
 unfold allAl
 rw [List.drop_eq_getElem_cons hl, List.all_cons]
 congr 2
 rw [← bt_eq s p h]
 rfl
theorem allAl_end (s : ByteArray) (p : Nat) (h : ¬ p < s.size) : allAl s p = true := by
 have hl : s.data.toList.length ≤ p := by simp; exact Nat.le_of_not_lt h
 unfold allAl
 rw [List.drop_of_length_le hl]; rfl
theorem high_none (s : ByteArray) (p : Nat) (h : 128 ≤ bt s p) : alnum ((Utf8.decode s p).1 : Nat) = false ∧ alnum (bt s p) = false ∧ small ((Utf8.decode s p).1 : Nat) = false ∧ big ((Utf8.decode s p).1 : Nat) = false ∧ digit ((Utf8.decode s p).1 : Nat) = false := by
 have := high_of s p h
 have a : ∀ x : Nat, 128 ≤ x → small (x : Int) = false ∧ big (x : Int) = false ∧ digit (x : Int) = false := by
   intro x hx
   refine ⟨?_, ?_, ?_⟩
   · simp [small]; omega
   · simp [big]; omega
   · simp [digit]; omega
 obtain ⟨a1, a2, a3⟩ := a _ this
 obtain ⟨b1, b2, b3⟩ := a _ h
 exact ⟨by simp [alnum, a1, a2, a3], by simp [alnum, b1, b2, b3], a1, a2, a3⟩
theorem alnum_at (s : ByteArray) (p : Nat) : alnum ((Utf8.decode s p).1 : Nat) = alnum (bt s p) := by
 by_cases h : bt s p < 128
 · rw [low_of s p h]
 · have := high_none s p (by omega); rw [this.1, this.2.1]
theorem alnum_wid (s : ByteArray) (p : Nat) (h : alnum ((Utf8.decode s p).1 : Nat) = true) : (Utf8.decode s p).2 = 1 ∧ (Utf8.decode s p).1 = bt s p := by
 by_cases g : bt s p < 128
 · rw [low_of s p g]; exact ⟨rfl, rfl⟩
 · have := high_none s p (by omega); rw [this.1] at h; cases h
theorem shape_no_al (first : Int → Bool) (s : ByteArray) (p : Nat) (h : p < s.size) (hb : allAl s p = allAl s 0) (ha : alnum ((Utf8.decode s p).1 : Nat) = false) : shape first s = false := by
 have := allAl_step s p h
 rw [← alnum_at, ha, Bool.false_and, hb] at this
 simp [shape, this]
theorem shape_no_first (first : Int → Bool) (s : ByteArray) (ha : alnum ((Utf8.decode s 0).1 : Nat) = true) (hf : first ((Utf8.decode s 0).1 : Nat) = false) : shape first s = false := by
 rw [(alnum_wid s 0 ha).2] at hf
 simp [shape, hf]
theorem al_next (s : ByteArray) (p : Nat) (h : p < s.size) (hb : allAl s p = allAl s 0) (ha : alnum ((Utf8.decode s p).1 : Nat) = true) : allAl s (p + (Utf8.decode s p).2) = allAl s 0 := by
 have := allAl_step s p h
 rw [← alnum_at, ha, Bool.true_and, hb] at this
 rw [(alnum_wid s p ha).1]; exact this.symm
theorem first_next (first : Int → Bool) (s : ByteArray) (ha : alnum ((Utf8.decode s 0).1 : Nat) = true) (hf : first ((Utf8.decode s 0).1 : Nat) = true) : first (bt s 0) = true := by
 rw [(alnum_wid s 0 ha).2] at hf; exact hf
theorem al3 {r : Int} (h : alnum r = true) : small r = true ∨ (small r = false ∧ big r = true) ∨ (small r = false ∧ big r = false ∧ digit r = true) := by
 unfold alnum at h
 cases hs : small r
 · cases hb : big r
   · right; right; rw [hs, hb] at h; exact ⟨rfl, rfl, by simpa using h⟩
   · right; left; exact ⟨rfl, rfl⟩
 · left; rfl
theorem al0 {r : Int} (h : alnum r = false) : small r = false ∧ big r = false ∧ digit r = false := by
 simp only [alnum, Bool.or_eq_false_iff] at h; exact ⟨h.1, h.2.1, h.2.2⟩
def stringWord : List UInt8 := [83, 116, 114, 105, 110, 103]
def nameOk (s : ByteArray) : Bool := shape small s && !(kept s.data.toList)
def classOk (s : ByteArray) : Bool := shape big s && !(s.data.toList == stringWord)
theorem letter_range (s : ByteArray) (p : Nat) : 0 ≤ letter ((Utf8.decode s p).1 : Nat) ∧ letter ((Utf8.decode s p).1 : Nat) ≤ 1114111 := by
 have := rune_ok s p
 unfold letter
 split <;> omega
theorem quote_at (s : ByteArray) (p : Nat) (h : p < s.size) (acc : List UInt8) (hacc : acc ++ (quoteFrom s p ++ [34]) = quote s) :
   (acc ++ (if must ((Utf8.decode s p).1 : Nat) then [92] else [])) ++ Lib.encodeRune (letter ((Utf8.decode s p).1 : Nat)) ++ (quoteFrom s (p + (Utf8.decode s p).2) ++ [34]) = quote s := by
 rw [← hacc, quoteFrom_step s p h, letter_cast, must_cast]
 simp [List.append_assoc]
/-! ### Reading a quote, a rune at a time: what is read so far is acc; esc: a sign stands ahead -/
def Reads (s : ByteArray) (p : Nat) (esc : Bool) (acc : List UInt8) : Prop := (plainL false (runes s 0)).map encs = (plainL esc (runes s p)).map fun t => acc ++ encs t
theorem reads_start (s : ByteArray) : Reads s 0 false [] := by unfold Reads; congr
theorem reads_esc (s : ByteArray) (p : Nat) (acc : List UInt8) (h : p < s.size) (hr : (((Utf8.decode s p).1 : Nat) : Int) = 92) (R : Reads s p false acc) : Reads s (p + (Utf8.decode s p).2) true acc := by
 unfold Reads at R ⊢
 have : (Utf8.decode s p).1 = 92 := by omega
 rw [R, runes_step s p h, this]; simp [plainL]
theorem meant_nat (r : Nat) (esc : Bool) (h : means (r : Int) esc = true) : meant (r : Int) esc = ((if esc && r == 110 then 10 else r : Nat) : Int) := by
 unfold meant
 rw [if_pos h]
 cases esc
 · simp
 · have : ((r : Int) == 110) = (r == 110) := by rw [Bool.eq_iff_iff]; simp; omega
   simp only [Bool.true_and, this]
   split <;> rfl
theorem reads_next (s : ByteArray) (p : Nat) (esc : Bool) (acc : List UInt8) (h : p < s.size) (hm : means ((Utf8.decode s p).1 : Nat) esc = true) (R : Reads s p esc acc) :
   Reads s (p + (Utf8.decode s p).2) false (acc ++ Lib.encodeRune (meant ((Utf8.decode s p).1 : Nat) esc)) := by
 have hn := meant_nat _ _ hm
 unfold Reads at R ⊢
 rw [R, runes_step s p h, hn]
 generalize (Utf8.decode s p).1 = r at *
 have a : ∀ k : Nat, ((r : Int) == (k : Int)) = (r == k) := fun k => by rw [Bool.eq_iff_iff]; simp; omega
 have a34 : ((r : Int) == 34) = (r == 34) := a 34
 have a92 : ((r : Int) == 92) = (r == 92) := a 92
 have a10 : ((r : Int) == 10) = (r == 10) := a 10
 have a110 : ((r : Int) == 110) = (r == 110) := a 110
 cases esc
 · simp only [means, must, a34, a92, a10, Bool.not_eq_true', Bool.or_eq_false_iff, beq_eq_false_iff_ne, Bool.false_eq_true, if_false] at hm
   simp only [plainL, hm.2.1, hm.1, hm.2.2, if_false, or_false, Option.map_map, Bool.false_and, Bool.false_eq_true]
   congr 1; funext t; simp [encs_cons]
 · simp only [means, if_true, a34, a92, a110, Bool.or_eq_true, beq_iff_eq] at hm
   by_cases g : r = 110
   · simp only [plainL, g, if_true, Option.map_map]
     congr 1; funext t; simp [encs_cons]
   · have g2 : r = 34 ∨ r = 92 := by rcases hm with hm | hm; exact absurd hm g; exact hm
     simp only [plainL, g, if_false, g2, if_true, Option.map_map, Bool.true_and, beq_iff_eq]
     congr 1; funext t; simp [encs_cons]
theorem reads_none (s : ByteArray) (p : Nat) (esc : Bool) (acc : List UInt8) (h : p < s.size) (hm : means ((Utf8.decode s p).1 : Nat) esc = false) (h92 : ¬ ((((Utf8.decode s p).1 : Nat) : Int) = 92 ∧ esc = false)) (R : Reads s p esc acc) :
   (plainL false (runes s 0)).map encs = none := by
 unfold Reads at R
 rw [R, runes_step s p h]
 generalize (Utf8.decode s p).1 = r at *
 have a : ∀ k : Nat, ((r : Int) == (k : Int)) = (r == k) := fun k => by rw [Bool.eq_iff_iff]; simp; omega
 have a34 : ((r : Int) == 34) = (r == 34) := a 34
 have a92 : ((r : Int) == 92) = (r == 92) := a 92
 have a10 : ((r : Int) == 10) = (r == 10) := a 10
 have a110 : ((r : Int) == 110) = (r == 110) := a 110
 cases esc
 · simp only [and_true] at h92
   have h92' : ¬ r = 92 := by omega
   simp only [means, must, a34, a92, a10, Bool.not_eq_false', Bool.or_eq_true, beq_iff_eq, Bool.false_eq_true, if_false, h92', false_or] at hm
   simp only [plainL, h92', if_false, if_pos hm]; rfl
 · simp only [means, if_true, a34, a92, a110, Bool.or_eq_false_iff, beq_eq_false_iff_ne] at hm
   simp only [plainL, hm.1, hm.2.1, hm.2.2, if_false, or_false]; rfl
theorem reads_end (s : ByteArray) (p : Nat) (esc : Bool) (acc : List UInt8) (h : ¬ p < s.size) (R : Reads s p esc acc) :
   (plainL false (runes s 0)).map encs = if esc then none else some acc := by
 unfold Reads at R
 rw [R, runes_end s p h]
 cases esc <;> simp [plainL, encs]
theorem plain_bad (s : ByteArray) (h : 0 ≤ bad s) : plainText s = [] ∧ plainOk s = false := by
 simp [plainText, plainOk, plain, h]
theorem plain_of (s : ByteArray) (h : bad s < 0) (o : Option (List UInt8)) (ho : (plainL false (runes s 0)).map encs = o) : plainText s = o.getD [] ∧ plainOk s = o.isSome := by
 have : ¬ 0 ≤ bad s := by omega
 simp only [plainText, plainOk, plain, this, if_false, ho]
 exact ⟨trivial, trivial⟩
theorem meant_range (s : ByteArray) (p : Nat) (esc : Bool) : 0 ≤ meant ((Utf8.decode s p).1 : Nat) esc ∧ meant ((Utf8.decode s p).1 : Nat) esc ≤ 1114111 := by
 have := rune_ok s p
 unfold meant
 split
 · split <;> omega
 · omega
end
section
open Go.RowKit
theorem small_any (r : Int) (w : World) : Calls Tryz.prog 114 #[.int .i32 r] w fun e w' => e = .returned (.bool (small r)) ∧ w = w' := by
 go_enter Tryz.func114, Tryz.ntmps114
 go_wp2
 all_goals (go_ret; exact ⟨by simp [small, *] <;> omega, rfl⟩)
theorem big_any (r : Int) (w : World) : Calls Tryz.prog 116 #[.int .i32 r] w fun e w' => e = .returned (.bool (big r)) ∧ w = w' := by
 go_enter Tryz.func116, Tryz.ntmps116
 go_wp2
 all_goals (go_ret; exact ⟨by simp [big, *] <;> omega, rfl⟩)
theorem digit_any (r : Int) (w : World) : Calls Tryz.prog 106 #[.int .i32 r] w fun e w' => e = .returned (.bool (digit r)) ∧ w = w' := by
 go_enter Tryz.func106, Tryz.ntmps106
 go_wp2
 all_goals (go_ret; exact ⟨by simp [digit, *] <;> omega, rfl⟩)
theorem letterOf_any (r : Int) (w : World) : Calls Tryz.prog 158 #[.int .i32 r] w fun e w' => e = .returned (.tuple #[.int .i32 (letter r), .bool (must r)]) ∧ w = w' := by
 go_enter Tryz.func158, Tryz.ntmps158
 go_wp2
 all_goals (go_ret2; refine ⟨?_, rfl⟩)
 all_goals (unfold letter must; simp_all)
theorem meantBy_any (r : Int) (esc : Bool) (w : World) : Calls Tryz.prog 146 #[.int .i32 r, .bool esc] w fun e w' => e = .returned (.tuple #[.int .i32 (meant r esc), .bool (means r esc)]) ∧ w = w' := by
 go_enter Tryz.func146, Tryz.ntmps146
 cases esc
 all_goals go_wp2_with (go_at_call 158; refine (letterOf_any _ _).mono ?_; rintro e w' ⟨rfl, rfl⟩)
 all_goals (go_ret2; refine ⟨?_, rfl⟩)
 all_goals (simp only [must] at *; unfold meant means; simp_all [must] <;> omega)
end
section
open Go.RowKit
theorem size0 (s : ByteArray) (h : s.size = 0) : s = ⟨#[]⟩ := by
 cases s with | mk d => congr 1; exact Array.eq_empty_of_size_eq_zero h
theorem ne_nil (s : ByteArray) (h : ¬ s.size = 0) : s.toList.isEmpty = false := by
 rw [Lib.toList_data, List.isEmpty_eq_false_iff]; intro e; apply h; have := congrArg List.length e; simpa using this
theorem iter_below (w : World) (s : ByteArray) (p : Nat) : Below w.heap.size w (w.iter s p) := (Below.refl _ w).alloc (Nat.le_refl _) _
theorem hasPrefix_any (s t : ByteArray) (b : Bool) (w : World) (h : Lib.hasPrefix s.data.toList t.data.toList = b) : Calls Tryz.prog 67 #[.string s, .string t] w fun e w' => e = .returned (.bool b) ∧ w = w' := by
 refine (Tryz.strings_HasPrefix s t w).mono ?_
 rintro e w' ⟨rfl, rfl⟩
 exact ⟨by rw [h], rfl⟩
theorem bad_any (s : ByteArray) (w : World) (hs : s.size ≤ maxLen) : Calls Tryz.prog 38 #[.string s] w fun e w' => e = .returned (.int .i64 (bad s)) ∧ Below w.heap.size w w' := by
 unfold maxLen at hs
 go_enter Tryz.func38, Tryz.ntmps38
 go_wp2
 go_loopw [] (fun wr => ∃ p : Nat, wr = w.iter s p ∧ p ≤ s.size ∧ badFrom s p = bad s) (fun wr => s.size - wr.iterPos w.heap.size)
 case atStart => exact ⟨0, rfl, Nat.zero_le _, rfl⟩
 case round =>
   obtain ⟨p, rfl, hp, hb⟩ := hrel
   by_cases hlt : p < s.size
   · have hnx := fun ty => run_next_any (P := Tryz.prog) w s p ty hlt
     have hw := wid_pos s p
     have hwl := wid_le s p hlt
     by_cases hF : (Utf8.decode s p).1 = 65533
     · have hFb : ((((Utf8.decode s p).1 : Nat) : Int) == 65533) = true := by rw [beq_iff_eq]; omega
       by_cases hB : badAt s p = true
       · have hst := badFrom_at s p hlt hB
         have hpf := fffd_bad s p hB
         have Hb := Lib.hid (hst.symm.trans hb); clear hb hst
         have Hpf := Lib.hid hpf; clear hpf
         clear hF hB
         go_wp2_with (go_at_call 67; refine (hasPrefix_any _ _ _ _ Hpf.out).mono ?_; rintro e w' ⟨rfl, rfl⟩)
         go_ret
         exact ⟨by rw [← Hb.out]; rfl, iter_below w s _⟩
       · have hB' : badAt s p = false := by simpa using hB
         have hst := badFrom_step s p hlt hB'
         have hpf := fffd_good s p hlt hF hB'
         have Hb := Lib.hid (hst.symm.trans hb); clear hb hst
         have Hpf := Lib.hid hpf; clear hpf
         clear hF hB hB'
         go_wp2_with (go_at_call 67; refine (hasPrefix_any _ _ _ _ Hpf.out).mono ?_; rintro e w' ⟨rfl, rfl⟩)
         go_roundw
         case rel => exact ⟨p + (Utf8.decode s p).2, rfl, hwl, Hb.out⟩
         case measure => simp; omega
     · have hFb : ((((Utf8.decode s p).1 : Nat) : Int) == 65533) = false := by rw [beq_eq_false_iff_ne]; omega
       have hst := badFrom_step s p hlt (badAt_not (fun e => hF (by rw [e])))
       have Hb := Lib.hid (hst.symm.trans hb); clear hb hst
       clear hF
       go_wp2
       go_roundw
       case rel => exact ⟨p + (Utf8.decode s p).2, rfl, hwl, Hb.out⟩
       case measure => simp; omega
   · have hnx := fun ty => run_next_end (P := Tryz.prog) w s p ty hlt
     have he := badFrom_end s p hlt
     have Hb := Lib.hid (hb.symm.trans he); clear hb he
     go_wp2
     go_ret
     exact ⟨by rw [Hb.out]; rfl, iter_below w s p⟩
end
section
open Go.RowKit
def Bld (B b : Nat) (l : List UInt8) (w : World) : Prop := Lib.IsBuilderF 82 5 B b (Lib.byteCells l) w
theorem wrune (B b : Nat) (l : List UInt8) (r : Int) (h0 : 0 ≤ r) (h1 : r ≤ 1114111) (w : World) (h : Bld B b l w) (hl : l.length ≤ 70368744177664) (hBw : B ≤ w.heap.size) :
   Calls Tryz.prog 147 #[.pointer (some ⟨b, 0, none⟩), .int .i32 r] w fun e w' => (∃ n : Nat, e = .returned (.tuple #[.int .i64 n, .nilIface])) ∧ Bld B b (l ++ Lib.encodeRune r) w' ∧ Below B w w' ∧ Lib.OthersKept 5 (some b) w w' := by
 refine (Tryz.Builder_WriteRune_k B b _ r (by omega) (by omega) w h (by rw [Lib.byteCells_length]; omega) hBw).mono ?_
 rintro e w' ⟨rfl, h1, b1, k1⟩
 refine ⟨⟨_, rfl⟩, ?_, b1, k1⟩
 unfold Bld
 rw [Lib.byteCells_append, Lib.byteCells_encodeRune]
 exact Or.inr h1
theorem bstring (B b : Nat) (l : List UInt8) (w : World) (h : Bld B b l w) (hBw : B ≤ w.heap.size) :
   Calls Tryz.prog 34 #[.pointer (some ⟨b, 0, none⟩)] w fun e w' => e = .returned (.string ⟨l.toArray⟩) ∧ Bld B b l w' ∧ Below B w w' ∧ Lib.OthersKept 5 (some b) w w' :=
 Tryz.Builder_String_any_k B b l w h hBw
theorem bnew (w : World) : Bld w.heap.size w.heap.size [] (w.alloc (.cells #[.pointer none, .slice none 0 0] 82)) := Lib.IsBuilderF.of (Lib.fresh_isBuilder 82 5 w)
theorem Bld.iterAt {B b : Nat} {l : List UInt8} {w : World} (h : Bld B b l w) {k : Nat} {s : ByteArray} {p : Nat} (hk : w.heap[k]? = some (.stringIter s p)) (p' : Nat) : Bld B b l (w.iterAt k s p') := Lib.IsBuilderF.iterAt h hk p'
theorem Bld.alloc {B b : Nat} {l : List UInt8} {w : World} (h : Bld B b l w) (o : Obj) : Bld B b l (w.alloc o) := Lib.IsBuilderF.alloc h o
end
section
open Go.RowKit
theorem wbyte (B b : Nat) (l : List UInt8) (c : UInt8) (ci : Int) (hc : ci = c.toNat) (w : World) (h : Bld B b l w) (hl : l.length ≤ 70368744177664) (hBw : B ≤ w.heap.size) :
   Calls Tryz.prog 157 #[.pointer (some ⟨b, 0, none⟩), .int .u8 ci] w fun e w' => e = .returned .nilIface ∧ Bld B b (l ++ [c]) w' ∧ Below B w w' ∧ Lib.OthersKept 5 (some b) w w' := by
 refine (Tryz.Builder_WriteByte_k B b _ ci w h (by rw [Lib.byteCells_length]; omega) hBw).mono ?_
 rintro e w' ⟨rfl, h1, b1, k1⟩
 refine ⟨rfl, ?_, b1, k1⟩
 unfold Bld
 rw [Lib.byteCells_append]
 subst hc
 exact Or.inr h1
theorem quote_any (s : ByteArray) (w : World) (hs : s.size ≤ 1048576) : Calls Tryz.prog 127 #[.string s] w fun e w' => e = .returned (.string ⟨(quote s).toArray⟩) ∧ Below w.heap.size w w' := by
 have hB0 : Below w.heap.size w (w.alloc (.cells #[.pointer none, .slice none 0 0] 82)) := (Below.refl _ w).alloc (Nat.le_refl _) _
 have hI0 := bnew w
 go_enter Tryz.func127, Tryz.ntmps127
 go_wp2_with (go_at_call 157; refine (wbyte w.heap.size w.heap.size [] 34 34 rfl _ hI0 (by simp) (by simp)).mono ?_)
 rintro e W1 ⟨rfl, h1, b1, k1⟩
 have bb : Below w.heap.size w W1 := hB0.trans b1
 have hk : w.heap.size < W1.heap.size := by have := b1.size; simp at this; omega
 clear hI0 hB0 b1 k1
 go_wp2_with fail
 go_loopw [] (fun wr => ∃ (p : Nat) (acc : List UInt8), Bld w.heap.size w.heap.size acc wr ∧ wr.heap[W1.heap.size]? = some (.stringIter s p) ∧ Below w.heap.size w wr ∧ acc ++ (quoteFrom s p ++ [34]) = quote s ∧ acc.length ≤ 1 + 8 * p ∧ p ≤ s.size) (fun wr => s.size - wr.iterPos W1.heap.size)
 case atStart => exact ⟨0, [34], h1.alloc _, World.iter_heap W1 s 0, bb.alloc (by omega) _, rfl, by simp, Nat.zero_le _⟩
 case round =>
   obtain ⟨p, acc, hI, hit, hbw, hacc, hal, hp⟩ := hrel
   have hsz : W1.heap.size < wr.heap.size := (Array.getElem?_eq_some_iff.1 hit).1
   have HA := Lib.hid hacc; clear hacc
   by_cases hlt : p < s.size
   · have hnx := fun ty => Lib.run_next_any_at (P := Tryz.prog) wr W1.heap.size s p ty hit hlt
     have hw := wid_pos s p
     have hwl := wid_le s p hlt
     have hI2 := hI.iterAt hit (p + (Utf8.decode s p).2)
     have hit2 := Lib.iterAt_heap wr W1.heap.size s p (p + (Utf8.decode s p).2) hit
     have hbw2 := Lib.below_iterAt hbw (k := W1.heap.size) (by omega) s (p + (Utf8.decode s p).2)
     have hsz2 : w.heap.size ≤ (wr.iterAt W1.heap.size s (p + (Utf8.decode s p).2)).heap.size := by rw [Lib.iterAt_size]; omega
     have hq := Lib.hid (quote_at s p hlt acc HA.out)
     have hlr := letter_range s p
     have hle := enc_len (letter ((Utf8.decode s p).1 : Nat))
     cases hm : must ((Utf8.decode s p).1 : Nat)
     · rw [hm] at hq
       go_wp2_with (first | (go_at_call 158; refine (letterOf_any _ _).mono ?_; rintro e w' ⟨rfl, rfl⟩) | (go_at_call 147; refine (wrune w.heap.size w.heap.size acc _ hlr.1 hlr.2 _ hI2 (by omega) hsz2).mono ?_))
       rintro e W2 ⟨⟨n2, rfl⟩, h2, b2, k2⟩
       have hit3 := k2.iter hit2 (by omega)
       have hb3 := hbw2.trans b2
       go_wp2
       go_roundw
       case rel => exact ⟨p + (Utf8.decode s p).2, _, h2, hit3, hb3, by simpa using hq.out, by simp; omega, hwl⟩
       case measure => simp only [World.iterPos, hit3, hit]; omega
     · rw [hm] at hq
       go_wp2_with (first | (go_at_call 158; refine (letterOf_any _ _).mono ?_; rintro e w' ⟨rfl, rfl⟩) | (go_at_call 157; refine (wbyte w.heap.size w.heap.size acc 92 92 rfl _ hI2 (by omega) hsz2).mono ?_))
       rintro e W2 ⟨rfl, h2, b2, k2⟩
       have hit3 := k2.iter hit2 (by omega)
       have hb3 := hbw2.trans b2
       have hsz3 : w.heap.size ≤ W2.heap.size := by have := hb3.size; omega
       go_wp2_with (go_at_call 147; refine (wrune w.heap.size w.heap.size (acc ++ [92]) _ hlr.1 hlr.2 _ h2 (by simp; omega) hsz3).mono ?_)
       rintro e W3 ⟨⟨n3, rfl⟩, h4, b4, k4⟩
       have hit5 := k4.iter hit3 (by omega)
       have hb5 := hb3.trans b4
       go_wp2
       go_roundw
       case rel => exact ⟨p + (Utf8.decode s p).2, _, h4, hit5, hb5, by simpa using hq.out, by simp; omega, hwl⟩
       case measure => simp only [World.iterPos, hit5, hit]; omega
   · have hnx := fun ty => Lib.run_next_end_at (P := Tryz.prog) wr W1.heap.size s p ty hit hlt
     have he := quoteFrom_end s p hlt
     have hq : acc ++ [34] = quote s := by have := HA.out; rw [he] at this; exact this
     have HQ := Lib.hid hq; clear he hq
     have hsz2 : w.heap.size ≤ wr.heap.size := by omega
     go_wp2_with (go_at_call 157; refine (wbyte w.heap.size w.heap.size acc 34 34 rfl _ hI (by omega) hsz2).mono ?_)
     rintro e W2 ⟨rfl, h2, b2, k2⟩
     have hb3 := hbw.trans b2
     have hsz3 : w.heap.size ≤ W2.heap.size := by have := hb3.size; omega
     go_wp2_with (go_at_call 34; refine (bstring w.heap.size w.heap.size (acc ++ [34]) _ h2 hsz3).mono ?_)
     rintro e W3 ⟨rfl, h4, b4, k4⟩
     go_wp2
     go_ret
     exact ⟨by rw [← HQ.out]; rfl, hb3.trans b4⟩
end
section
open Go.RowKit
theorem reserved_any (s : ByteArray) (w : World) : Calls Tryz.prog 115 #[.string s] w fun e w' => e = .returned (.bool (kept s.data.toList)) ∧ w = w' := by
 go_enter Tryz.func115, Tryz.ntmps115
 rw [← Lib.toList_data]
 go_wp2
 all_goals (go_ret; refine ⟨?_, rfl⟩)
 all_goals first | (simp_all only [kept, keptWords, List.contains_cons]; done) | (simp_all [kept, keptWords, List.contains_cons]; done)
theorem shaped_small (s : ByteArray) (w : World) (hs : s.size ≤ maxLen) : Calls Tryz.prog 113 #[.string s, .func (.func 114) #[] #[]] w fun e w' => e = .returned (.bool (shape small s)) ∧ Below w.heap.size w w' := by
 unfold maxLen at hs
 by_cases h0 : s.size = 0
 · obtain rfl := size0 s h0
   go_enter Tryz.func113, Tryz.ntmps113
   go_wp2
   go_ret
   exact ⟨by have e : (⟨#[]⟩ : ByteArray).size = 0 := rfl; simp [shape, e], Below.refl _ _⟩
 · have hne := ne_nil s h0
   by_cases h20 : 20 < s.size
   · go_enter Tryz.func113, Tryz.ntmps113
     go_wp2
     go_ret
     exact ⟨by simp [shape]; omega, Below.refl _ _⟩
   · have h20' : (s.size : Int) ≤ 20 := by omega
     go_enter Tryz.func113, Tryz.ntmps113
     go_wp2
     go_loopw [] (fun wr => ∃ p : Nat, wr = w.iter s p ∧ p ≤ s.size ∧ allAl s p = allAl s 0 ∧ (0 < p → small (bt s 0) = true)) (fun wr => s.size - wr.iterPos w.heap.size)
     case atStart => exact ⟨0, rfl, Nat.zero_le _, rfl, fun h => by omega⟩
     case round =>
       obtain ⟨p, rfl, hp, hb, hf⟩ := hrel
       have Hb := Lib.hid hb; clear hb
       have Hf := Lib.hid hf; clear hf
       by_cases hlt : p < s.size
       · have hnx := fun ty => run_next_any (P := Tryz.prog) w s p ty hlt
         have hw := wid_pos s p
         have hwl := wid_le s p hlt
         cases hal : alnum ((Utf8.decode s p).1 : Nat)
         · have HR := Lib.hid (shape_no_al small s p hlt Hb.out hal)
           obtain ⟨a1, a2, a3⟩ := al0 hal
           rcases Nat.eq_zero_or_pos p with rfl | hpos
           · go_wp2_with (first | (go_at_call 114; refine (small_any _ _).mono ?_; rintro e w' ⟨rfl, rfl⟩) | (go_at_call 116; refine (big_any _ _).mono ?_; rintro e w' ⟨rfl, rfl⟩) | (go_at_call 106; refine (digit_any _ _).mono ?_; rintro e w' ⟨rfl, rfl⟩))
             go_ret
             exact ⟨by rw [HR.out]; rfl, iter_below w s _⟩
           · have hpb : ((p : Int) == 0) = false := by rw [beq_eq_false_iff_ne]; omega
             go_wp2_with (first | (go_at_call 114; refine (small_any _ _).mono ?_; rintro e w' ⟨rfl, rfl⟩) | (go_at_call 116; refine (big_any _ _).mono ?_; rintro e w' ⟨rfl, rfl⟩) | (go_at_call 106; refine (digit_any _ _).mono ?_; rintro e w' ⟨rfl, rfl⟩))
             go_ret
             exact ⟨by rw [HR.out]; rfl, iter_below w s _⟩
         · have HS := Lib.hid (al_next s p hlt Hb.out hal)
           rcases Nat.eq_zero_or_pos p with rfl | hpos
           · cases hf : small ((Utf8.decode s 0).1 : Nat)
             · have HR := Lib.hid (shape_no_first small s hal hf)
               clear hal
               go_wp2_with (first | (go_at_call 114; refine (small_any _ _).mono ?_; rintro e w' ⟨rfl, rfl⟩) | (go_at_call 116; refine (big_any _ _).mono ?_; rintro e w' ⟨rfl, rfl⟩) | (go_at_call 106; refine (digit_any _ _).mono ?_; rintro e w' ⟨rfl, rfl⟩))
               go_ret
               exact ⟨by rw [HR.out]; rfl, iter_below w s _⟩
             · have HF := Lib.hid (first_next small s hal hf)
               rcases al3 hal with a1 | ⟨a1, a2⟩ | ⟨a1, a2, a3⟩
               all_goals clear hal
               all_goals go_wp2_with (first | (go_at_call 114; refine (small_any _ _).mono ?_; rintro e w' ⟨rfl, rfl⟩) | (go_at_call 116; refine (big_any _ _).mono ?_; rintro e w' ⟨rfl, rfl⟩) | (go_at_call 106; refine (digit_any _ _).mono ?_; rintro e w' ⟨rfl, rfl⟩))
               all_goals go_roundw
               all_goals first | exact ⟨_, rfl, by first | exact hwl | simpa using hwl, by first | exact HS.out | simpa using HS.out, fun _ => HF.out⟩ | (simp; omega)
           · have hpb : ((p : Int) == 0) = false := by rw [beq_eq_false_iff_ne]; omega
             have HF := Lib.hid (Hf.out hpos)
             rcases al3 hal with a1 | ⟨a1, a2⟩ | ⟨a1, a2, a3⟩
             all_goals clear hal
             all_goals go_wp2_with (first | (go_at_call 114; refine (small_any _ _).mono ?_; rintro e w' ⟨rfl, rfl⟩) | (go_at_call 116; refine (big_any _ _).mono ?_; rintro e w' ⟨rfl, rfl⟩) | (go_at_call 106; refine (digit_any _ _).mono ?_; rintro e w' ⟨rfl, rfl⟩))
             all_goals go_roundw
             all_goals first | exact ⟨p + (Utf8.decode s p).2, rfl, hwl, HS.out, fun _ => HF.out⟩ | (simp; omega)
       · have hnx := fun ty => run_next_end (P := Tryz.prog) w s p ty hlt
         have he := allAl_end s p hlt
         have HR : Hid (shape small s = true) := by
           show shape small s = true
           rw [shape, ← Hb.out, he, Hf.out (by omega)]; simp; omega
         clear he
         go_wp2
         go_ret
         exact ⟨by rw [HR.out]; rfl, iter_below w s p⟩
end
section
open Go.RowKit
theorem ret_sb (a b : ByteArray) (x y : Bool) (h1 : a = b) (h2 : x = y) : Ending.returned (.tuple #[.string a, .bool x]) = .returned (.tuple #[.string b, .bool y]) := by rw [h1, h2]
theorem plain_any (s : ByteArray) (w : World) (hs : s.size ≤ 16777216) : Calls Tryz.prog 110 #[.string s] w fun e w' => e = .returned (.tuple #[.string ⟨(plainText s).toArray⟩, .bool (plainOk s)]) ∧ Below w.heap.size w w' := by
 by_cases hbad : 0 ≤ bad s
 · obtain ⟨r1, r2⟩ := plain_bad s hbad
   have R1 := Lib.hid r1; clear r1
   have R2 := Lib.hid r2; clear r2
   go_enter Tryz.func110, Tryz.ntmps110
   go_wp2_with (go_at_call 38; refine (bad_any _ _ (by unfold maxLen; omega)).mono ?_; rintro e w1 ⟨rfl, hb1⟩)
   go_ret2
   exact ⟨by rw [R1.out, R2.out]; rfl, hb1⟩
 · have hbad' : bad s < 0 := by omega
   go_enter Tryz.func110, Tryz.ntmps110
   go_wp2_with (go_at_call 38; refine (bad_any _ _ (by unfold maxLen; omega)).mono ?_; rintro e w1 ⟨rfl, hb1⟩)
   have hw1 := hb1.size
   have PO := Lib.hid (plain_of s hbad')
   have hI0 := bnew w1
   have bb : Below w.heap.size w (w1.alloc (.cells #[.pointer none, .slice none 0 0] 82)) := hb1.alloc (by omega) _
   go_loopw [5] (fun v5 wr => ∃ (p : Nat) (esc : Bool) (acc : List UInt8), v5 = .bool esc ∧ Bld w1.heap.size w1.heap.size acc wr ∧ wr.heap[w1.heap.size + 1]? = some (.stringIter s p) ∧ Below w.heap.size w wr ∧ Reads s p esc acc ∧ acc.length ≤ 4 * p ∧ p ≤ s.size) (fun v5 wr => s.size - wr.iterPos (w1.heap.size + 1))
   case atStart =>
     refine ⟨0, false, [], rfl, hI0.alloc _, ?_, bb.alloc (by simp; omega) _, reads_start s, by simp, Nat.zero_le _⟩
     have := World.iter_heap (w1.alloc (.cells #[.pointer none, .slice none 0 0] 82)) s 0
     simpa using this
   case round =>
     obtain ⟨p, esc, acc, rfl, hI, hit, hbw, hR, hal, hp⟩ := hrel
     have hsz : w1.heap.size + 1 < wr.heap.size := (Array.getElem?_eq_some_iff.1 hit).1
     have HR := Lib.hid hR; clear hR
     by_cases hlt : p < s.size
     · have hnx := fun ty => Lib.run_next_any_at (P := Tryz.prog) wr (w1.heap.size + 1) s p ty hit hlt
       have hw := wid_pos s p
       have hwl := wid_le s p hlt
       have hI2 := hI.iterAt hit (p + (Utf8.decode s p).2)
       have hit2 := Lib.iterAt_heap wr (w1.heap.size + 1) s p (p + (Utf8.decode s p).2) hit
       have hbw2 := Lib.below_iterAt hbw (k := w1.heap.size + 1) (by omega) s (p + (Utf8.decode s p).2)
       have hsz2 : w1.heap.size ≤ (wr.iterAt (w1.heap.size + 1) s (p + (Utf8.decode s p).2)).heap.size := by rw [Lib.iterAt_size]; omega
       by_cases h92 : (((Utf8.decode s p).1 : Nat) : Int) = 92 ∧ esc = false
       · obtain ⟨g, rfl⟩ := h92
         have HN := Lib.hid (reads_esc s p acc hlt g HR.out)
         have h92b : ((((Utf8.decode s p).1 : Nat) : Int) == 92) = true := by rw [beq_iff_eq]; exact g
         clear g
         go_wp2
         go_roundw
         case rel => exact ⟨p + (Utf8.decode s p).2, true, acc, rfl, hI2, hit2, hbw2, HN.out, by omega, hwl⟩
         case measure => simp only [World.iterPos, hit2, hit]; omega
       · have hreg : ((((Utf8.decode s p).1 : Nat) : Int) == 92) = false ∨ (((((Utf8.decode s p).1 : Nat) : Int) == 92) = true ∧ esc = true) := by
           by_cases g : (((Utf8.decode s p).1 : Nat) : Int) = 92
           · right; refine ⟨by rw [beq_iff_eq]; exact g, ?_⟩
             cases esc
             · exact absurd ⟨g, rfl⟩ h92
             · rfl
           · left; rw [beq_eq_false_iff_ne]; exact g
         cases hm : means ((Utf8.decode s p).1 : Nat) esc
         · have hn := PO.out _ (reads_none s p esc acc hlt hm h92 HR.out)
           have HN := Lib.hid hn; clear hn h92
           rcases hreg with hreg | ⟨hreg, rfl⟩
           all_goals go_wp2_with (go_at_call 146; refine (meantBy_any _ _ _).mono ?_; rintro e w' ⟨rfl, rfl⟩)
           all_goals go_ret2
           all_goals exact ⟨ret_sb _ _ _ _ (by rw [HN.out.1]; rfl) (by rw [HN.out.2]; rfl), hbw2⟩
         · have HN := Lib.hid (reads_next s p esc acc hlt hm HR.out)
           have hmr := meant_range s p esc
           have hle := enc_len (meant ((Utf8.decode s p).1 : Nat) esc)
           clear h92
           rcases hreg with hreg | ⟨hreg, rfl⟩
           all_goals go_wp2_with (first | (go_at_call 146; refine (meantBy_any _ _ _).mono ?_; rintro e w' ⟨rfl, rfl⟩) | (go_at_call 147; refine (wrune w1.heap.size w1.heap.size acc _ hmr.1 hmr.2 _ hI2 (by omega) hsz2).mono ?_))
           all_goals (
             rintro e W2 ⟨⟨n2, rfl⟩, h2, b2, k2⟩
             have hit3 := k2.iter hit2 (by omega)
             have hb3 := hbw2.trans (b2.mono hw1)
             go_wp2
             go_roundw
             case rel => exact ⟨p + (Utf8.decode s p).2, false, _, rfl, h2, hit3, hb3, HN.out, by simp; omega, hwl⟩
             case measure => simp only [World.iterPos, hit3, hit]; omega)
     · have hnx := fun ty => Lib.run_next_end_at (P := Tryz.prog) wr (w1.heap.size + 1) s p ty hit hlt
       have hn := PO.out _ (reads_end s p esc acc hlt HR.out)
       have hsz2 : w1.heap.size ≤ wr.heap.size := by omega
       cases esc
       · have HN := Lib.hid hn; clear hn
         go_wp2_with (go_at_call 34; refine (bstring w1.heap.size w1.heap.size acc _ hI hsz2).mono ?_)
         rintro e W3 ⟨rfl, h4, b4, k4⟩
         go_wp2
         go_ret2
         exact ⟨ret_sb _ _ _ _ (by rw [HN.out.1]; rfl) (by rw [HN.out.2]; rfl), hbw.trans (b4.mono hw1)⟩
       · have HN := Lib.hid hn; clear hn
         go_wp2
         go_ret2
         exact ⟨ret_sb _ _ _ _ (by rw [HN.out.1]; rfl) (by rw [HN.out.2]; rfl), hbw⟩
end
end Go.Proofs.YtaclhdpjkgoadaaGreatDoor
