/- Classes as plain pairs of names: places, ways up, what leads where. No program. -/
import Derived.Test.YteogphbdpjnjoaaGreatProg
import Derived.WalkKit
import Derived.Below
set_option linter.unusedSimpArgs false
set_option linter.unusedVariables false
namespace Go.Proofs.YteogphbdpjnjoaaGreat
open Go.RowKit

/-- A class's head: its name, that of its Super. -/
abbrev Hdr := ByteArray × ByteArray
def kExc : ByteArray := ⟨#[69, 120, 99, 101, 112, 116, 105, 111, 110]⟩
def kNul : ByteArray := ⟨#[78, 117, 108, 108, 70, 97, 117, 108, 116]⟩
def kCas : ByteArray := ⟨#[67, 97, 115, 116, 70, 97, 117, 108, 116]⟩
def kZer : ByteArray := ⟨#[90, 101, 114, 111, 70, 97, 117, 108, 116]⟩
def kRan : ByteArray := ⟨#[82, 97, 110, 103, 101, 70, 97, 117, 108, 116]⟩
def basesL : List Hdr := [(kExc, ⟨#[]⟩), (kNul, kExc), (kCas, kExc), (kZer, kExc), (kRan, kExc)]
def famL (cs : List Hdr) : List Hdr := basesL ++ cs
theorem famL_len (cs : List Hdr) : (famL cs).length = 5 + cs.length := by simp [famL, basesL]; omega
theorem famL_own (cs : List Hdr) (i : Nat) : (famL cs)[5 + i]? = cs[i]? := by
  unfold famL
  rw [List.getElem?_append_right (by simp [basesL])]
  congr 1; simp [basesL]
/-- The place of the first one of that name; the length. -/
def plc : List Hdr → ByteArray → Nat
  | [], _ => 0
  | h :: l, s => if h.1 = s then 0 else 1 + plc l s
theorem plc_le : ∀ (l : List Hdr) (s : ByteArray), plc l s ≤ l.length
  | [], _ => by simp [plc]
  | h :: l, s => by
    unfold plc; split
    · omega
    · have := plc_le l s; simp; omega
theorem plc_at : ∀ (l : List Hdr) (s : ByteArray), plc l s < l.length → ∃ h, l[plc l s]? = some h ∧ h.1 = s
  | [], s, h => by simp [plc] at h
  | x :: l, s, h => by
    unfold plc at h ⊢
    by_cases hx : x.1 = s
    · rw [if_pos hx]; exact ⟨x, by simp, hx⟩
    · rw [if_neg hx] at h ⊢
      obtain ⟨y, h1, h2⟩ := plc_at l s (by simp at h; omega)
      exact ⟨y, by rw [Nat.add_comm, List.getElem?_cons_succ]; exact h1, h2⟩
theorem plc_lt : ∀ (l : List Hdr) (i : Nat) (h : Hdr), l[i]? = some h → plc l h.1 ≤ i
  | [], i, h, hh => by simp at hh
  | x :: l, 0, h, hh => by simp at hh; subst hh; simp [plc]
  | x :: l, i + 1, h, hh => by
    unfold plc; split
    · omega
    · have := plc_lt l i h (by simpa using hh); omega
theorem plc_inj {l : List Hdr} {s t : ByteArray} (h : plc l s = plc l t) (hl : plc l s < l.length) : s = t := by
  obtain ⟨x, h1, h2⟩ := plc_at l s hl
  obtain ⟨y, h3, h4⟩ := plc_at l t (h ▸ hl)
  rw [h] at h1; rw [h1] at h3; injection h3 with h3; rw [← h2, ← h4, h3]
theorem drop_at {α : Type} {l : List α} {k : Nat} {x : α} (h : l[k]? = some x) : l.drop k = x :: l.drop (k + 1) := by
  obtain ⟨h1, h2⟩ := List.getElem?_eq_some_iff.1 h
  rw [List.drop_eq_getElem_cons h1, h2]
theorem plc_next {l : List Hdr} {k : Nat} {x : Hdr} {s : ByteArray} (h : plc l s = k + plc (l.drop k) s) (hx : l[k]? = some x) (hn : x.1 ≠ s) : plc l s = (k + 1) + plc (l.drop (k + 1)) s := by
  rw [h, drop_at hx, plc, if_neg hn]; omega
theorem plc_hit {l : List Hdr} {k : Nat} {x : Hdr} {s : ByteArray} (h : plc l s = k + plc (l.drop k) s) (hx : l[k]? = some x) (hn : x.1 = s) : plc l s = k := by
  rw [h, drop_at hx, plc, if_pos hn]; omega
theorem plc_end {l : List Hdr} {k : Nat} {s : ByteArray} (h : plc l s = k + plc (l.drop k) s) (hx : l.length ≤ k) (hk : k ≤ l.length) : plc l s = l.length := by
  rw [h, List.drop_eq_nil_of_le hx, plc]; omega

/-- The place of the Super; of none, none. -/
def upp (ps : List Hdr) (i : Nat) : Nat := match ps[i]? with
  | some h => plc ps h.2
  | none => ps.length
theorem upp_le (ps : List Hdr) (i : Nat) : upp ps i ≤ ps.length := by unfold upp; split; exact plc_le _ _; exact Nat.le_refl _
theorem upp_at {ps : List Hdr} {i : Nat} {h : Hdr} (hx : ps[i]? = some h) : upp ps i = plc ps h.2 := by unfold upp; rw [hx]
theorem upp_none (ps : List Hdr) : upp ps ps.length = ps.length := by unfold upp; rw [List.getElem?_eq_none (Nat.le_refl _)]
def it (f : Nat → Nat) : Nat → Nat → Nat
  | 0, i => i
  | k + 1, i => it f k (f i)
theorem it_add (f : Nat → Nat) : ∀ (a b i : Nat), it f (a + b) i = it f b (it f a i)
  | 0, b, i => by rw [Nat.zero_add]; rfl
  | a + 1, b, i => by rw [Nat.add_right_comm]; exact it_add f a b (f i)
theorem it_succ (f : Nat → Nat) (k i : Nat) : it f (k + 1) i = f (it f k i) := it_add f k 1 i
theorem it_le (ps : List Hdr) : ∀ (k : Nat) {i : Nat}, i ≤ ps.length → it (upp ps) k i ≤ ps.length
  | 0, i, h => h
  | k + 1, i, h => it_le ps k (upp_le ps i)
theorem it_none (ps : List Hdr) : ∀ k, it (upp ps) k ps.length = ps.length
  | 0 => rfl
  | k + 1 => by show it (upp ps) k (upp ps ps.length) = _; rw [upp_none]; exact it_none ps k
theorem it_stay (ps : List Hdr) {i j k : Nat} (h : it (upp ps) j i = ps.length) (hk : j ≤ k) : it (upp ps) k i = ps.length := by
  obtain ⟨d, rfl⟩ := Nat.exists_eq_add_of_le hk
  rw [it_add, h, it_none]
/-- The way up from that place comes to the goal. -/
def Leads (ps : List Hdr) (g i : Nat) : Prop := ∃ k, it (upp ps) k i = g
theorem Leads.refl (ps : List Hdr) (i : Nat) : Leads ps i i := ⟨0, rfl⟩
theorem Leads.up {ps : List Hdr} {g i : Nat} (h : Leads ps g (upp ps i)) : Leads ps g i := by obtain ⟨k, hk⟩ := h; exact ⟨k + 1, hk⟩
theorem Leads.of_up {ps : List Hdr} {g i : Nat} (h : Leads ps g i) (hn : i ≠ g) : Leads ps g (upp ps i) := by
  obtain ⟨k, hk⟩ := h
  cases k with
  | zero => exact absurd hk hn
  | succ k => exact ⟨k, hk⟩
theorem leads_up {ps : List Hdr} {g i : Nat} (hn : i ≠ g) : Leads ps g i ↔ Leads ps g (upp ps i) := ⟨fun h => h.of_up hn, Leads.up⟩
theorem Leads.trans {ps : List Hdr} {a b c : Nat} (h : Leads ps b a) (k : Leads ps c b) : Leads ps c a := by
  obtain ⟨m, hm⟩ := h; obtain ⟨n, hn⟩ := k; exact ⟨m + n, by rw [it_add, hm, hn]⟩
theorem leads_none_not {ps : List Hdr} {g : Nat} (hg : g < ps.length) : ¬ Leads ps g ps.length := by
  rintro ⟨k, hk⟩; rw [it_none] at hk; omega
/-- Where ways end, nobody comes back to where it began. -/
theorem no_ring {ps : List Hdr} {i j : Nat} (hi : i < ps.length) (he : Leads ps ps.length i) (h1 : Leads ps j i) (h2 : Leads ps i j) : i = j := by
  obtain ⟨a, ha⟩ := h1; obtain ⟨b, hb⟩ := h2; obtain ⟨e, he⟩ := he
  rcases Nat.eq_zero_or_pos a with rfl | h0
  · exact ha
  · exfalso
    have hring : it (upp ps) (a + b) i = i := by rw [it_add, ha, hb]
    have hall : ∀ t, it (upp ps) (t * (a + b)) i = i := by
      intro t
      induction t with
      | zero => rw [Nat.zero_mul]; rfl
      | succ t ih => rw [Nat.succ_mul, it_add, ih, hring]
    have := it_stay ps he (show e ≤ e * (a + b) from Nat.le_mul_of_pos_right e (by omega))
    rw [hall] at this; omega

/-- What the walk up has come by: up to the first that is none or was there. -/
structure Way (ps : List Hdr) (i0 : Nat) (l : List Nat) (i : Nat) : Prop where
  at_ : i = it (upp ps) l.length i0
  all : ∀ j, j < l.length → l[j]? = some (it (upp ps) j i0)
  lt : ∀ x ∈ l, x < ps.length
  nd : l.Nodup
theorem Way.nil (ps : List Hdr) (i : Nat) : Way ps i [] i := ⟨rfl, fun j h => by simp at h, fun x h => by simp at h, List.nodup_nil⟩
theorem nodup_len : ∀ (n : Nat) (l : List Nat), l.Nodup → (∀ x ∈ l, x < n) → l.length ≤ n
  | 0, l, _, h => by
    cases l with
    | nil => simp
    | cons x l => have := h x (by simp); omega
  | n + 1, l, hd, h => by
    by_cases hm : n ∈ l
    · have h1 := nodup_len n (l.erase n) (hd.erase n) (fun x hx => by
        have h2 := (hd.mem_erase_iff).1 hx
        have := h x h2.2
        have := h2.1
        omega)
      rw [List.length_erase_of_mem hm] at h1; omega
    · have := nodup_len n l hd (fun x hx => by
        have := h x hx
        have h3 : x ≠ n := by rintro rfl; exact hm hx
        omega)
      omega
theorem Way.len {ps : List Hdr} {i0 i : Nat} {l : List Nat} (h : Way ps i0 l i) : l.length ≤ ps.length := nodup_len _ l h.nd h.lt
theorem Way.step {ps : List Hdr} {i0 i : Nat} {l : List Nat} (h : Way ps i0 l i) (hi : i < ps.length) (hn : i ∉ l) : Way ps i0 (l ++ [i]) (upp ps i) := by
  refine ⟨by rw [List.length_append, List.length_singleton, it_succ, ← h.at_], fun j hj => ?_, fun x hx => ?_, ?_⟩
  · by_cases hl : j < l.length
    · rw [List.getElem?_append_left hl]; exact h.all j hl
    · have : j = l.length := by simp at hj; omega
      subst this; rw [List.getElem?_append_right (Nat.le_refl _)]; simp [h.at_]
  · rcases List.mem_append.1 hx with hx | hx
    · exact h.lt x hx
    · rw [List.mem_singleton.1 hx]; exact hi
  · rw [List.nodup_append]
    exact ⟨h.nd, by simp, fun a ha b hb => by rw [List.mem_singleton.1 hb]; rintro rfl; exact hn ha⟩
theorem Way.mem {ps : List Hdr} {i0 i x : Nat} {l : List Nat} (h : Way ps i0 l i) (hx : x ∈ l) : ∃ j, j < l.length ∧ x = it (upp ps) j i0 := by
  obtain ⟨j, hj⟩ := List.getElem?_of_mem hx
  have hl := (List.getElem?_eq_some_iff.1 hj).1
  rw [h.all j hl] at hj; injection hj with hj; exact ⟨j, hl, hj.symm⟩
theorem Way.of {ps : List Hdr} {i0 i j : Nat} {l : List Nat} (h : Way ps i0 l i) (hj : j < l.length) : it (upp ps) j i0 ∈ l := List.mem_of_getElem? (h.all j hj)
/-- A way that is at its end. -/
def Ch (ps : List Hdr) (i0 : Nat) (l : List Nat) : Prop := ∃ i, Way ps i0 l i ∧ (ps.length ≤ i ∨ i ∈ l)
theorem Ch.orbit {ps : List Hdr} {i0 : Nat} {l : List Nat} (h : Ch ps i0 l) (h0 : i0 ≤ ps.length) (k : Nat) : (∃ j, j < l.length ∧ it (upp ps) k i0 = it (upp ps) j i0) ∨ it (upp ps) k i0 = ps.length := by
  obtain ⟨i, hw, he⟩ := h
  induction k with
  | zero =>
    rcases Nat.eq_zero_or_pos l.length with hz | hz
    · right
      have := hw.at_
      rw [hz] at this
      have hl : l = [] := List.eq_nil_of_length_eq_zero hz
      rcases he with he | he
      · show i0 = _; have : i = i0 := this; omega
      · rw [hl] at he; simp at he
    · left; exact ⟨0, hz, rfl⟩
  | succ k ih =>
    rcases ih with ⟨j, hj, hjk⟩ | hk
    · rw [it_succ, hjk, ← it_succ (upp ps) j i0]
      by_cases hl : j + 1 < l.length
      · left; exact ⟨j + 1, hl, rfl⟩
      · have : j + 1 = l.length := by omega
        rw [this, ← hw.at_]
        rcases he with he | he
        · right; have := it_le ps l.length h0; rw [← hw.at_] at this; omega
        · left; obtain ⟨m, hm, e⟩ := hw.mem he; exact ⟨m, hm, e⟩
    · right; rw [it_succ, hk, upp_none]
theorem Ch.mem_iff {ps : List Hdr} {i0 g : Nat} {l : List Nat} (h : Ch ps i0 l) (h0 : i0 ≤ ps.length) : g ∈ l ↔ g < ps.length ∧ Leads ps g i0 := by
  constructor
  · intro hg
    obtain ⟨i, hw, _⟩ := id h
    obtain ⟨j, _, e⟩ := hw.mem hg
    exact ⟨hw.lt g hg, j, e.symm⟩
  · rintro ⟨hg, k, hk⟩
    rcases h.orbit h0 k with ⟨j, hj, e⟩ | e
    · obtain ⟨i, hw, _⟩ := h
      rw [← hk, e]; exact hw.of hj
    · omega
theorem Ch.ends_iff {ps : List Hdr} {i0 : Nat} {l : List Nat} (h : Ch ps i0 l) (h0 : i0 ≤ ps.length) : Leads ps ps.length i0 ↔ it (upp ps) l.length i0 = ps.length := by
  constructor
  · rintro ⟨k, hk⟩
    obtain ⟨i, hw, he⟩ := id h
    have hle := it_le ps l.length h0
    rw [← hw.at_] at hle ⊢
    rcases he with he | he
    · omega
    · exfalso
      obtain ⟨m, hm, e⟩ := hw.mem he
      have hj : ∀ t, ∃ j, j < l.length ∧ it (upp ps) t i0 = it (upp ps) j i0 := by
        intro t
        induction t with
        | zero => exact ⟨0, by omega, rfl⟩
        | succ t ih =>
          obtain ⟨j, hj, e2⟩ := ih
          rw [it_succ, e2, ← it_succ (upp ps) j i0]
          by_cases hl : j + 1 < l.length
          · exact ⟨j + 1, hl, rfl⟩
          · have : j + 1 = l.length := by omega
            rw [this, ← hw.at_]; exact ⟨m, hm, e⟩
      obtain ⟨j, hj, e3⟩ := hj k
      have := hw.lt _ (hw.of hj)
      omega
  · intro e; exact ⟨_, e⟩
/-- Each place has its way. -/
theorem Ch.exist (ps : List Hdr) (i0 : Nat) : ∃ l, Ch ps i0 l := by
  have key : ∀ n l i, Way ps i0 l i → ps.length - l.length = n → ∃ l, Ch ps i0 l := by
    intro n
    induction n with
    | zero =>
      intro l i hw hn
      by_cases he : ps.length ≤ i ∨ i ∈ l
      · exact ⟨l, i, hw, he⟩
      · have h1 : i < ps.length := by omega
        have h2 : i ∉ l := fun h => he (.inr h)
        have := (hw.step h1 h2).len
        simp at this; have := hw.len; omega
    | succ n ih =>
      intro l i hw hn
      by_cases he : ps.length ≤ i ∨ i ∈ l
      · exact ⟨l, i, hw, he⟩
      · have h1 : i < ps.length := by omega
        have h2 : i ∉ l := fun h => he (.inr h)
        exact ih _ _ (hw.step h1 h2) (by simp; omega)
  exact key _ [] i0 (Way.nil _ _) rfl
def leadsB (ps : List Hdr) (g i : Nat) : Bool := (List.range (ps.length + 1)).any fun k => it (upp ps) k i == g
theorem leadsB_iff {ps : List Hdr} {g i : Nat} (hi : i ≤ ps.length) (hg : g ≤ ps.length) : leadsB ps g i = true ↔ Leads ps g i := by
  unfold leadsB
  rw [List.any_eq_true]
  constructor
  · rintro ⟨k, _, hk⟩; exact ⟨k, by simpa using hk⟩
  · intro h
    obtain ⟨l, hc⟩ := Ch.exist ps i
    have hl : l.length ≤ ps.length := by obtain ⟨_, hw, _⟩ := hc; exact hw.len
    by_cases hn : g = ps.length
    · subst hn
      exact ⟨l.length, by simp; omega, by simpa using (hc.ends_iff hi).1 h⟩
    · have := (hc.mem_iff hi).2 ⟨by omega, h⟩
      obtain ⟨_, hw, _⟩ := hc
      obtain ⟨j, hj, e⟩ := hw.mem this
      exact ⟨j, by simp; omega, by simpa using e.symm⟩
theorem leadsB_false {ps : List Hdr} {g i : Nat} (hi : i ≤ ps.length) (hg : g ≤ ps.length) : leadsB ps g i = false ↔ ¬ Leads ps g i := by
  rw [← leadsB_iff hi hg]; simp
end Go.Proofs.YteogphbdpjnjoaaGreat
