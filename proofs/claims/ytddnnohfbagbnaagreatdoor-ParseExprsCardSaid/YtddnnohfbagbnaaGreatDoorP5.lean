/- Parts of the proof: Plain, Text, Sign, SignB, SignC, SignD, SignE, SignF. -/
import Derived.Test.YtddnnohfbagbnaaGreatDoorHi
import Derived.Lib.OthersKept
import Derived.Lib.RuneBytes
import Derived.Lib.DecodeNEq
import Derived.Lib.RuneCount
import Derived.Lib.Strings
import Derived.Test.YtddnnohfbagbnaaGreatDoorP42
import Derived.WalkKit
import Derived.BigCall
import Derived.Deep.QuietTactic
import Derived.BigQuiet
import Derived.Lib.Hide
set_option maxHeartbeats 2000000
namespace Go.Proofs.YtddnnohfbagbnaaGreatDoor
section
def adm (r:Int):Bool:=decide (97≤r) && decide (r≤122)
def big (r:Int):Bool:=decide (65≤r) && decide (r≤90)
def aa7 (r:Int):Bool:=decide (48≤r) && decide (r≤57)
def aa1 (r:Int):Bool:=adm r || (big r || aa7 r)
def keptWords:List (List UInt8) :=
 [[98,111,111,108,101,97,110],[105,110,116],[118,111,105,100],[99,108,97,115,115],[101,120,116,101,110,100,115],[115,116,97,116,105,99],[110,101,119],[116,104,105,115],[115,117,112,101,114],[110,117,108,108],[116,114,117,101],[102,97,108,115,101],[105,102],[101,108,115,101],[119,104,105,108,101],[114,101,116,117,114,110],[112,114,105,110,116],[97,115,115,101,114,116],[116,104,114,111,119],[116,114,121],[99,97,116,99,104],[102,105,110,97,108,108,121],[97,115],[105,115]]
def kept (l:List UInt8):Bool:=keptWords.contains l
def letter (r:Int):Int:=if r=10 then 110 else r
def must (r:Int):Bool:=r == 34 || (r == 92 || r == 10)
/-! ### Bytes -/
def bt (s:ByteArray) (i:Nat):Nat:=(s.get! i).toNat
theorem ac2 (s:ByteArray) (i:Nat):bt s i < 256:=(s.get! i).toNat_lt
theorem get_eq (s:ByteArray) (i:Nat) (h:i < s.size):s.get! i=s[i]'h:=get_at s i h
theorem abu (s:ByteArray) (i:Nat) (h:i < s.size):(s[i]'h).toNat=bt s i:=by rw [bt,get_eq s i h]
/-! ### The classes of a rune's bytes -/
def C2 (n b0 b1:Nat):Prop:=194≤b0∧b0≤223∧2≤n∧128≤b1∧b1≤191
def C3 (n b0 b1 b2:Nat):Prop:=224≤b0∧b0≤239∧3≤n∧128≤b1∧b1≤191∧(b0=224→160≤b1)∧(b0=237→b1≤159)∧128≤b2∧b2≤191
def C4 (n b0 b1 b2 b3:Nat):Prop:=240≤b0∧b0≤244∧4≤n∧128≤b1∧b1≤191∧(b0=240→144≤b1)∧(b0=244→b1≤143)∧128≤b2∧b2≤191∧128≤b3∧b3≤191
theorem dec1 (n b0 b1 b2 b3:Nat) (h:b0 < 128):Lib.decodeN n b0 b1 b2 b3=(b0,1):=by simp [Lib.decodeN,h]
theorem dec2 (n b0 b1 b2 b3:Nat) (h:C2 n b0 b1):Lib.decodeN n b0 b1 b2 b3=((b0 - 192) * 64+(b1 - 128),2):=by
 obtain ⟨h1,h2,h3,h4,h5⟩:=h
 have e1:b0 % 32=b0 - 192:=by omega
 have e2:b1 % 64=b1 - 128:=by omega
 have a1:¬ b0 < 128:=by omega
 have a2:b0 / 32=6∧(1 < n∧b1 / 64=2):=by omega
 have a3:(b0 - 192) * 64+(b1 - 128) ≥ 128:=by omega
 simp only [Lib.decodeN,if_neg a1,if_pos a2,e1,e2,if_pos a3]
theorem dec3 (n b0 b1 b2 b3:Nat) (h:C3 n b0 b1 b2):Lib.decodeN n b0 b1 b2 b3=((b0 - 224) * 4096+(b1 - 128) * 64+(b2 - 128),3):=by
 obtain ⟨h1,h2,h3,h4,h5,h6,h7,h8,h9⟩:=h
 have e1:b0 % 16=b0 - 224:=by omega
 have e2:b1 % 64=b1 - 128:=by omega
 have e3:b2 % 64=b2 - 128:=by omega
 have a1:¬ b0 < 128:=by omega
 have a2:¬ (b0 / 32=6∧(1 < n∧b1 / 64=2)):=by omega
 have a3:b0 / 16=14∧(1 < n∧b1 / 64=2)∧(2 < n∧b2 / 64=2):=by omega
 have a4:(b0 - 224) * 4096+(b1 - 128) * 64+(b2 - 128) ≥ 2048∧((b0 - 224) * 4096+(b1 - 128) * 64+(b2 - 128) < 55296∨(57344≤(b0 - 224) * 4096+(b1 - 128) * 64+(b2 - 128)∧(b0 - 224) * 4096+(b1 - 128) * 64+(b2 - 128)≤1114111)):=by
  by_cases g1:b0=224
  ·have:=h6 g1;omega
  ·by_cases g2:b0=237
   ·have:=h7 g2;omega
   ·omega
 simp only [Lib.decodeN,if_neg a1,if_neg a2,if_pos a3,e1,e2,e3,if_pos a4]
theorem dec4 (n b0 b1 b2 b3:Nat) (h:C4 n b0 b1 b2 b3):Lib.decodeN n b0 b1 b2 b3=((b0 - 240) * 262144+(b1 - 128) * 4096+(b2 - 128) * 64+(b3 - 128),4):=by
 obtain ⟨h1,h2,h3,h4,h5,h6,h7,h8,h9,h10,h11⟩:=h
 have e1:b0 % 8=b0 - 240:=by omega
 have e2:b1 % 64=b1 - 128:=by omega
 have e3:b2 % 64=b2 - 128:=by omega
 have e4:b3 % 64=b3 - 128:=by omega
 have a1:¬ b0 < 128:=by omega
 have a2:¬ (b0 / 32=6∧(1 < n∧b1 / 64=2)):=by omega
 have a3:¬ (b0 / 16=14∧(1 < n∧b1 / 64=2)∧(2 < n∧b2 / 64=2)):=by omega
 have a4:b0 / 8=30∧(1 < n∧b1 / 64=2)∧(2 < n∧b2 / 64=2)∧(3 < n∧b3 / 64=2):=by omega
 have a5:(b0 - 240) * 262144+(b1 - 128) * 4096+(b2 - 128) * 64+(b3 - 128) ≥ 65536∧((b0 - 240) * 262144+(b1 - 128) * 4096+(b2 - 128) * 64+(b3 - 128) < 55296∨(57344≤(b0 - 240) * 262144+(b1 - 128) * 4096+(b2 - 128) * 64+(b3 - 128)∧(b0 - 240) * 262144+(b1 - 128) * 4096+(b2 - 128) * 64+(b3 - 128)≤1114111)):=by
  by_cases g1:b0=240
  ·have:=h6 g1;omega
  ·by_cases g2:b0=244
   ·have:=h7 g2;omega
   ·omega
 simp only [Lib.decodeN,if_neg a1,if_neg a2,if_neg a3,if_pos a4,e1,e2,e3,e4,if_pos a5]
theorem dec0 (n b0 b1 b2 b3:Nat) (i0:b0 < 256) (i1:b1 < 256) (i2:b2 < 256) (i3:b3 < 256) (h:128≤b0) (h2:¬ C2 n b0 b1) (h3:¬ C3 n b0 b1 b2) (h4:¬ C4 n b0 b1 b2 b3):Lib.decodeN n b0 b1 b2 b3=(65533,1):=by
 have a1:¬ b0 < 128:=by omega
 unfold C2 at h2
 unfold C3 at h3
 unfold C4 at h4
 simp only [Lib.decodeN,if_neg a1]
 split
 ·rw [if_neg (by omega)]
 ·split
  ·rw [if_neg]
   intro hh
   apply h3
   refine ⟨by omega,by omega,by omega,by omega,by omega,fun g=>?_,fun g=>?_,by omega,by omega⟩<;>omega
  ·split
   ·rw [if_neg]
    intro hh
    apply h4
    refine ⟨by omega,by omega,by omega,by omega,by omega,fun g=>?_,fun g=>?_,by omega,by omega,by omega,by omega⟩<;>omega
   ·rfl
/-! ### The rune at a place -/
theorem aef (s:ByteArray) (p:Nat):Utf8.decode s p=Lib.decodeN (s.size - p) (bt s p) (bt s (p+1)) (bt s (p+2)) (bt s (p+3)):=Lib.decode_at s p
def af4 (s:ByteArray) (p:Nat):Bool:=(Utf8.decode s p).1 == 65533 && (Utf8.decode s p).2 == 1
def K2 (s:ByteArray) (p:Nat):Prop:=C2 (s.size - p) (bt s p) (bt s (p+1))
def K3 (s:ByteArray) (p:Nat):Prop:=C3 (s.size - p) (bt s p) (bt s (p+1)) (bt s (p+2))
def K4 (s:ByteArray) (p:Nat):Prop:=C4 (s.size - p) (bt s p) (bt s (p+1)) (bt s (p+2)) (bt s (p+3))
theorem ai9 (s:ByteArray) (p:Nat) :
  (bt s p < 128∧Utf8.decode s p=(bt s p,1)) ∨
  (K2 s p∧Utf8.decode s p=((bt s p - 192) * 64+(bt s (p+1) - 128),2)) ∨
  (K3 s p∧Utf8.decode s p=((bt s p - 224) * 4096+(bt s (p+1) - 128) * 64+(bt s (p+2) - 128),3)) ∨
  (K4 s p∧Utf8.decode s p=((bt s p - 240) * 262144+(bt s (p+1) - 128) * 4096+(bt s (p+2) - 128) * 64+(bt s (p+3) - 128),4)) ∨
  (128≤bt s p∧¬ K2 s p∧¬ K3 s p∧¬ K4 s p∧Utf8.decode s p=(65533,1)):=by
 rw [aef]
 by_cases h1:bt s p < 128
 ·exact .inl ⟨h1,dec1 _ _ _ _ _ h1⟩
 ·by_cases h2:K2 s p
  ·exact .inr (.inl ⟨h2,dec2 _ _ _ _ _ h2⟩)
  ·by_cases h3:K3 s p
   ·exact .inr (.inr (.inl ⟨h3,dec3 _ _ _ _ _ h3⟩))
   ·by_cases h4:K4 s p
    ·exact .inr (.inr (.inr (.inl ⟨h4,dec4 _ _ _ _ _ h4⟩)))
    ·exact .inr (.inr (.inr (.inr ⟨by omega,h2,h3,h4,dec0 _ _ _ _ _ (ac2 _ _) (ac2 _ _) (ac2 _ _) (ac2 _ _) (by omega) h2 h3 h4⟩)))
theorem adu (s:ByteArray) (p:Nat):1≤(Utf8.decode s p).2:=by
 rcases ai9 s p with ⟨_,e⟩|⟨_,e⟩|⟨_,e⟩|⟨_,e⟩|⟨_,_,_,_,e⟩<;>rw [e]<;>simp
theorem af6 (s:ByteArray) (p:Nat) (h:p < s.size):p+(Utf8.decode s p).2≤s.size:=by
 rcases ai9 s p with ⟨_,e⟩|⟨k,e⟩|⟨k,e⟩|⟨k,e⟩|⟨_,_,_,_,e⟩<;>rw [e]
 ·simp;omega
 ·obtain ⟨_,_,k,_⟩:=k;simp;omega
 ·obtain ⟨_,_,k,_⟩:=k;simp;omega
 ·obtain ⟨_,_,k,_⟩:=k;simp;omega
 ·simp;omega
theorem badAt_eq {s:ByteArray} {p:Nat} (h:af4 s p=true):Utf8.decode s p=(65533,1):=by
 simp [af4] at h;exact Prod.ext h.1 h.2
theorem aau {s:ByteArray} {p:Nat} (h:Utf8.decode s p=(65533,1)):af4 s p=true:=by simp [af4,h]
theorem ads {s:ByteArray} {p:Nat} (h:Utf8.decode s p≠(65533,1)):af4 s p=false:=by
 rw [Bool.eq_false_iff];exact fun e=>h (badAt_eq e)
theorem ahf (s:ByteArray) (p:Nat) (h:(Utf8.decode s p).1 < 128):bt s p=(Utf8.decode s p).1∧(Utf8.decode s p).2=1:=by
 rcases ai9 s p with ⟨_,e⟩|⟨k,e⟩|⟨k,e⟩|⟨k,e⟩|⟨_,_,_,_,e⟩<;>rw [e] at h ⊢
 ·exact ⟨rfl,rfl⟩
 ·obtain ⟨h1,h2,h3,h4,h5⟩:=k;simp at h;omega
 ·obtain ⟨h1,h2,h3,h4,h5,h6,h7,h8,h9⟩:=k;simp at h
  by_cases g:bt s p=224
  ·have:=h6 g;omega
  ·omega
 ·obtain ⟨h1,h2,h3,h4,h5,h6,h7,h8,h9,h10,h11⟩:=k;simp at h
  by_cases g:bt s p=240
  ·have:=h6 g;omega
  ·omega
 ·simp at h
theorem aej (s:ByteArray) (p:Nat) (h:bt s p < 128):Utf8.decode s p=(bt s p,1):=by
 rcases ai9 s p with ⟨_,e⟩|⟨k,e⟩|⟨k,e⟩|⟨k,e⟩|⟨g,_,_,_,e⟩
 ·exact e
 ·have:=k.1;omega
 ·have:=k.1;omega
 ·have:=k.1;omega
 ·omega
theorem high_of (s:ByteArray) (p:Nat) (h:128≤bt s p):128≤(Utf8.decode s p).1:=by
 by_cases g:(Utf8.decode s p).1 < 128
 ·have:=ahf s p g;omega
 ·omega
theorem ajc (s:ByteArray) (p:Nat) (h:bt s p < 128):af4 s p=false:=by
 apply ads;rw [aej s p h];intro e;injection e with e1 e2;omega
theorem rune_ok (s:ByteArray) (p:Nat):(Utf8.decode s p).1 < 55296∨(57344≤(Utf8.decode s p).1∧(Utf8.decode s p).1≤1114111):=by
 rcases ai9 s p with ⟨_,e⟩|⟨k,e⟩|⟨k,e⟩|⟨k,e⟩|⟨_,_,_,_,e⟩<;>rw [e]
 ·left;have:=ac2 s p;simp;omega
 ·obtain ⟨h1,h2,h3,h4,h5⟩:=k;left;simp;omega
 ·obtain ⟨h1,h2,h3,h4,h5,h6,h7,h8,h9⟩:=k;simp
  by_cases g:bt s p=237
  ·have:=h7 g;omega
  ·omega
 ·obtain ⟨h1,h2,h3,h4,h5,h6,h7,h8,h9,h10,h11⟩:=k;simp
  by_cases g:bt s p=244
  ·have:=h7 g;omega
  ·by_cases g:bt s p=240
   ·have:=h6 g;omega
   ·omega
 ·right;simp
/-! ### A part of a text -/
def sub (s:ByteArray) (p k:Nat):List UInt8:=(s.data.toList.drop p).take k
theorem sub_zero (s:ByteArray) (p:Nat):sub s p 0=[]:=by simp [sub]
theorem aeo (s:ByteArray) (p k:Nat) (h:p+k < s.size):sub s p (k+1)=sub s p k ++ [s.get! (p+k)]:=by
 have hl:k < (s.data.toList.drop p).length:=by simp;have:s.data.size=s.size:=rfl;omega
 rw [sub,List.take_succ_eq_append_getElem hl,sub]
 congr 1
 rw [get_eq s (p+k) h,List.getElem_drop]
 rfl
theorem toU8 (b:UInt8) (x:Int) (h:x=b.toNat):x.toNat.toUInt8=b:=by subst h;simp
theorem enc_ok (s:ByteArray) (p:Nat) (h:p < s.size) (hb:af4 s p=false):Lib.encodeRune (Utf8.decode s p).1=sub s p (Utf8.decode s p).2:=by
 rcases ai9 s p with ⟨k,e⟩|⟨k,e⟩|⟨k,e⟩|⟨k,e⟩|⟨_,_,_,_,e⟩
 ·rw [e,aeo s p 0 (by omega),sub_zero,Lib.encodeRune,Lib.encodeRuneZ_one (by omega) (by omega)]
  simp [bt]
 ·obtain ⟨h1,h2,h3,h4,h5⟩:=k
  rw [e,aeo s p 1 (by omega),aeo s p 0 (by omega),sub_zero,Lib.encodeRune,Lib.encodeRuneZ_two (by simp;omega) (by simp;omega)]
  simp only [List.map_cons,List.map_nil,List.nil_append,List.cons_append,Nat.add_zero]
  rw [toU8 (s.get! p) _ (by simp only [bt] at *;omega),toU8 (s.get! (p+1)) _ (by simp only [bt] at *;omega)]
 ·obtain ⟨h1,h2,h3,h4,h5,h6,h7,h8,h9⟩:=k
  have hr:=rune_ok s p
  rw [e] at hr
  have g1:2048≤(bt s p - 224) * 4096+(bt s (p+1) - 128) * 64+(bt s (p+2) - 128):=by
   by_cases g:bt s p=224
   ·have:=h6 g;omega
   ·omega
  rw [e,aeo s p 2 (by omega),aeo s p 1 (by omega),aeo s p 0 (by omega),sub_zero,Lib.encodeRune,Lib.encodeRuneZ_three (by simp only [] at *;omega)]
  simp only [List.map_cons,List.map_nil,List.nil_append,List.cons_append,Nat.add_zero]
  rw [toU8 (s.get! p) _ (by simp only [bt] at *;omega),toU8 (s.get! (p+1)) _ (by simp only [bt] at *;omega),toU8 (s.get! (p+2)) _ (by simp only [bt] at *;omega)]
 ·obtain ⟨h1,h2,h3,h4,h5,h6,h7,h8,h9,h10,h11⟩:=k
  have hr:=rune_ok s p
  rw [e] at hr
  have g1:65536≤(bt s p - 240) * 262144+(bt s (p+1) - 128) * 4096+(bt s (p+2) - 128) * 64+(bt s (p+3) - 128):=by
   by_cases g:bt s p=240
   ·have:=h6 g;omega
   ·omega
  rw [e,aeo s p 3 (by omega),aeo s p 2 (by omega),aeo s p 1 (by omega),aeo s p 0 (by omega),sub_zero,Lib.encodeRune,Lib.encodeRuneZ_four (by simp only [] at *;omega) (by simp only [] at *;omega)]
  simp only [List.map_cons,List.map_nil,List.nil_append,List.cons_append,Nat.add_zero]
  rw [toU8 (s.get! p) _ (by simp only [bt] at *;omega),toU8 (s.get! (p+1)) _ (by simp only [bt] at *;omega),toU8 (s.get! (p+2)) _ (by simp only [bt] at *;omega),toU8 (s.get! (p+3)) _ (by simp only [bt] at *;omega)]
 ·rw [aau e] at hb;cases hb
end
section
/-! ### The runes of a text, from a place on -/
def aih (s:ByteArray):Nat→Nat→List Nat
 | 0,_=>[]
 | f+1,p=>if p < s.size then (Utf8.decode s p).1 :: aih s f (p+(Utf8.decode s p).2) else []
def aid (s:ByteArray) (p:Nat):List Nat:=aih s (s.size - p) p
theorem agb (s:ByteArray) (f p:Nat) (h:¬ p < s.size):aih s f p=[]:=by
 cases f with
 | zero=>rfl
 | succ f=>simp [aih,h]
theorem runesF_eq (s:ByteArray):∀ (f g p:Nat),s.size≤p+f→s.size≤p+g→aih s f p=aih s g p
 | 0,g,p,hf,hg=>by rw [agb s 0 p (by omega),agb s g p (by omega)]
 | f+1,0,p,hf,hg=>by rw [agb s (f+1) p (by omega),agb s 0 p (by omega)]
 | f+1,g+1,p,hf,hg=>by
  have:=adu s p
  simp only [aih]
  rw [runesF_eq s f g (p+(Utf8.decode s p).2) (by omega) (by omega)]
theorem runes_end (s:ByteArray) (p:Nat) (h:¬ p < s.size):aid s p=[]:=agb s _ p h
theorem ajn (s:ByteArray) (p:Nat) (h:p < s.size):aid s p=(Utf8.decode s p).1 :: aid s (p+(Utf8.decode s p).2):=by
 have:=adu s p
 unfold aid
 obtain ⟨f,hf⟩:∃ f,s.size - p=f+1:=⟨s.size - p - 1,by omega⟩
 rw [hf]
 simp only [aih,h,if_true]
 rw [runesF_eq s f (s.size - (p+(Utf8.decode s p).2)) _ (by omega) (by omega)]
/-! ### The first place that is no UTF-8, from a place on -/
def badF (s:ByteArray):Nat→Nat→Int
 | 0,_=>-1
 | f+1,p=>if p < s.size then (if af4 s p then (p:Int) else badF s f (p+(Utf8.decode s p).2)) else -1
def ad2 (s:ByteArray) (p:Nat):Int:=badF s (s.size - p) p
def bad (s:ByteArray):Int:=badF s s.size 0
theorem ajb (s:ByteArray) (f p:Nat) (h:¬ p < s.size):badF s f p=-1:=by
 cases f with
 | zero=>rfl
 | succ f=>simp [badF,h]
theorem badF_eq (s:ByteArray):∀ (f g p:Nat),s.size≤p+f→s.size≤p+g→badF s f p=badF s g p
 | 0,g,p,hf,hg=>by rw [ajb s 0 p (by omega),ajb s g p (by omega)]
 | f+1,0,p,hf,hg=>by rw [ajb s (f+1) p (by omega),ajb s 0 p (by omega)]
 | f+1,g+1,p,hf,hg=>by
  have:=adu s p
  simp only [badF]
  rw [badF_eq s f g (p+(Utf8.decode s p).2) (by omega) (by omega)]
theorem aio (s:ByteArray) (p:Nat) (h:¬ p < s.size):ad2 s p=-1:=ajb s _ p h
theorem aj4 (s:ByteArray) (p:Nat) (h:p < s.size) (hb:af4 s p=true):ad2 s p=p:=by
 unfold ad2
 obtain ⟨f,hf⟩:∃ f,s.size - p=f+1:=⟨s.size - p - 1,by omega⟩
 rw [hf];simp only [badF,h,hb,if_true]
theorem ad5 (s:ByteArray) (p:Nat) (h:p < s.size) (hb:af4 s p=false):ad2 s p=ad2 s (p+(Utf8.decode s p).2):=by
 have:=adu s p
 unfold ad2
 obtain ⟨f,hf⟩:∃ f,s.size - p=f+1:=⟨s.size - p - 1,by omega⟩
 rw [hf]
 simp only [badF,h,hb,if_true]
 rw [badF_eq s f (s.size - (p+(Utf8.decode s p).2)) _ (by omega) (by omega)]
 simp
theorem badF_range (s:ByteArray):∀ f p,badF s f p=-1∨((p:Int)≤badF s f p∧badF s f p < s.size)
 | 0,p=>.inl rfl
 | f+1,p=>by
  simp only [badF]
  split
  ·split
   ·right;omega
   ·rcases badF_range s f (p+(Utf8.decode s p).2) with h|h
    ·exact .inl h
    ·right;omega
  ·exact .inl rfl
theorem badFrom_range (s:ByteArray) (p:Nat):ad2 s p=-1∨((p:Int)≤ad2 s p∧ad2 s p < s.size):=badF_range s _ p
/-! ### Runes that can be, and their bytes -/
def encs (l:List Nat):List UInt8:=l.flatMap fun r:Nat=>Lib.encodeRune (r:Int)
theorem ai8 (r:Nat) (l:List Nat):encs (r :: l)=Lib.encodeRune (r:Int) ++ encs l:=by simp [encs]
theorem enc_len (r:Int):1≤(Lib.encodeRune r).length∧(Lib.encodeRune r).length≤4:=by
 have:=Lib.encodeRuneZ_length r;simpa [Lib.encodeRune] using this
theorem get_list (l:List UInt8) (i:Nat) (b:UInt8) (h:l[i]?=some b):bt ⟨l.toArray⟩ i=b.toNat:=by
 have hl:i < l.length:=(List.getElem?_eq_some_iff.1 h).1
 have hs:i < (⟨l.toArray⟩:ByteArray).size:=by simpa [ByteArray.size] using hl
 rw [bt,get_eq _ i hs]
 congr 1
 have:l[i]=b:=(List.getElem?_eq_some_iff.1 h).2
 rw [← this]
 rfl
/-! ### Quotes -/
def letterN (r:Nat):Nat:=if r=10 then 110 else r
def mustN (r:Nat):Bool:=r == 34 || (r == 92 || r == 10)
def qr (r:Nat):List Nat:=if mustN r then [92,letterN r] else [r]
def quoteFrom (s:ByteArray) (p:Nat):List UInt8:=encs ((aid s p).flatMap qr)
def quote (s:ByteArray):List UInt8:=[34] ++ (quoteFrom s 0 ++ [34])
theorem must_cast (r:Nat):must (r:Int)=mustN r:=by
 unfold must mustN
 have a:∀ k:Nat,((r:Int) == (k:Int))=(r == k):=fun k=>by rw [Bool.eq_iff_iff];simp;omega
 rw [← a 34,← a 92,← a 10];rfl
/-! ### What a quote stands for -/
def ac5:Bool→List Nat→Option (List Nat)
 | esc,[]=>if esc then none else some []
 | false,r :: t=>if r=92 then ac5 true t else if r=34∨r=10 then none else (ac5 false t).map (r :: ·)
 | true,r :: t=>if r=110 then (ac5 false t).map (10 :: ·) else if r=34∨r=92 then (ac5 false t).map (r :: ·) else none
def plain (s:ByteArray):Option (List UInt8):=if 0≤bad s then none else (ac5 false (aid s 0)).map encs
def abf (s:ByteArray):List UInt8:=(plain s).getD []
def acf (s:ByteArray):Bool:=(plain s).isSome
def ahe (r:Int) (esc:Bool):Bool:=if esc then r == 110 || (r == 34 || r == 92) else !(must r)
def ajx (r:Int) (esc:Bool):Int:=if ahe r esc then (if esc && r == 110 then 10 else r) else 0
/-! ### Parts of a text, as the walk spells them -/
theorem ac7 (s:ByteArray) (a b:Nat):(s.extract a b).data.toList=(s.data.toList.drop a).take (b - a):=by
 simp [ByteArray.data_extract,Array.toList_extract,List.extract]
theorem extract_sub (s:ByteArray) (a b:Nat):(s.extract a b).data.toList=sub s a (b - a):=ac7 s a b
theorem aey (s:ByteArray) (a:Nat):(s.extract a s.size).data.toList=s.data.toList.drop a:=by
 rw [ac7,List.take_of_length_le];simp
theorem fffd_good (s:ByteArray) (p:Nat) (h:p < s.size) (hr:(Utf8.decode s p).1=65533) (hb:af4 s p=false):Lib.hasPrefix (s.extract p s.size).data.toList [239,191,189]=true:=by
 have e:=enc_ok s p h hb
 rw [hr] at e
 have e2:Lib.encodeRune ((65533:Nat):Int)=[239,191,189]:=by decide
 rw [e2] at e
 rw [aey,Lib.hasPrefix,List.isPrefixOf_iff_prefix,e]
 exact List.take_prefix _ _
theorem drop_get (s:ByteArray) (p k:Nat) (x:UInt8) (h:(s.data.toList.drop p)[k]?=some x):bt s (p+k)=x.toNat∧p+k < s.size:=by
 rw [List.getElem?_drop] at h
 have hl:=(List.getElem?_eq_some_iff.1 h).1
 have hs:s.data.toList.length=s.size:=by simp
 refine ⟨?_,by omega⟩
 have:=get_list s.data.toList (p+k) x h
 simpa using this
theorem fffd_bad (s:ByteArray) (p:Nat) (hb:af4 s p=true):Lib.hasPrefix (s.extract p s.size).data.toList [239,191,189]=false:=by
 rw [Bool.eq_false_iff]
 intro h
 rw [aey,Lib.hasPrefix,List.isPrefixOf_iff_prefix] at h
 obtain ⟨t,ht⟩:=h
 have g0:=drop_get s p 0 239 (by rw [← ht];rfl)
 have g1:=drop_get s p 1 191 (by rw [← ht];rfl)
 have g2:=drop_get s p 2 189 (by rw [← ht];rfl)
 have k:K3 s p:=by
  rw [Nat.add_zero] at g0
  have a0:=g0.1;have a1:=g1.1;have a2:=g2.1
  simp at a0 a1 a2
  exact ⟨by omega,by omega,by omega,by omega,by omega,by omega,by omega,by omega,by omega⟩
 rcases ai9 s p with ⟨k1,_⟩|⟨k1,_⟩|⟨_,e⟩|⟨k1,_⟩|⟨_,_,k1,_⟩
 ·have:=k.1;omega
 ·have:=k.1;have:=k1.2.1;omega
 ·rw [badAt_eq hb] at e;injection e with e1 e2;omega
 ·have:=k.2.1;have:=k1.1;omega
 ·exact k1 k
/-! ### Names -/
def ae0 (s:ByteArray) (p:Nat):Bool:=(s.data.toList.drop p).all fun b=>aa1 (b.toNat:Int)
def afn (first:Int→Bool) (s:ByteArray):Bool:=decide (1≤s.size) && (decide (s.size≤20) && (first (bt s 0) && ae0 s 0))
theorem aia (s:ByteArray) (p:Nat) (h:p < s.size):ae0 s p=(aa1 (bt s p) && ae0 s (p+1)):=by
 have hl:p < s.data.toList.length:=by simp;exact h
 unfold ae0
 rw [List.drop_eq_getElem_cons hl,List.all_cons]
 congr 2
 rw [← abu s p h]
 rfl
theorem allAl_end (s:ByteArray) (p:Nat) (h:¬ p < s.size):ae0 s p=true:=by
 have hl:s.data.toList.length≤p:=by simp;exact Nat.le_of_not_lt h
 unfold ae0
 rw [List.drop_of_length_le hl];rfl
theorem high_none (s:ByteArray) (p:Nat) (h:128≤bt s p):aa1 ((Utf8.decode s p).1:Nat)=false∧aa1 (bt s p)=false∧adm ((Utf8.decode s p).1:Nat)=false∧big ((Utf8.decode s p).1:Nat)=false∧aa7 ((Utf8.decode s p).1:Nat)=false:=by
 have:=high_of s p h
 have a:∀ x:Nat,128≤x→adm (x:Int)=false∧big (x:Int)=false∧aa7 (x:Int)=false:=by
  intro x hx
  refine ⟨?_,?_,?_⟩
  ·simp [adm];omega
  ·simp [big];omega
  ·simp [aa7];omega
 obtain ⟨a1,a2,a3⟩:=a _ this
 obtain ⟨b1,b2,b3⟩:=a _ h
 exact ⟨by simp [aa1,a1,a2,a3],by simp [aa1,b1,b2,b3],a1,a2,a3⟩
theorem ako (s:ByteArray) (p:Nat):aa1 ((Utf8.decode s p).1:Nat)=aa1 (bt s p):=by
 by_cases h:bt s p < 128
 ·rw [aej s p h]
 ·have:=high_none s p (by omega);rw [this.1,this.2.1]
theorem aho (s:ByteArray) (p:Nat) (h:aa1 ((Utf8.decode s p).1:Nat)=true):(Utf8.decode s p).2=1∧(Utf8.decode s p).1=bt s p:=by
 by_cases g:bt s p < 128
 ·rw [aej s p g];exact ⟨rfl,rfl⟩
 ·have:=high_none s p (by omega);rw [this.1] at h;cases h
theorem shape_no_al (first:Int→Bool) (s:ByteArray) (p:Nat) (h:p < s.size) (hb:ae0 s p=ae0 s 0) (ha:aa1 ((Utf8.decode s p).1:Nat)=false):afn first s=false:=by
 have:=aia s p h
 rw [← ako,ha,Bool.false_and,hb] at this
 simp [afn,this]
theorem aif (first:Int→Bool) (s:ByteArray) (ha:aa1 ((Utf8.decode s 0).1:Nat)=true) (hf:first ((Utf8.decode s 0).1:Nat)=false):afn first s=false:=by
 rw [(aho s 0 ha).2] at hf
 simp [afn,hf]
theorem al_next (s:ByteArray) (p:Nat) (h:p < s.size) (hb:ae0 s p=ae0 s 0) (ha:aa1 ((Utf8.decode s p).1:Nat)=true):ae0 s (p+(Utf8.decode s p).2)=ae0 s 0:=by
 have:=aia s p h
 rw [← ako,ha,Bool.true_and,hb] at this
 rw [(aho s p ha).1];exact this.symm
theorem first_next (first:Int→Bool) (s:ByteArray) (ha:aa1 ((Utf8.decode s 0).1:Nat)=true) (hf:first ((Utf8.decode s 0).1:Nat)=true):first (bt s 0)=true:=by
 rw [(aho s 0 ha).2] at hf;exact hf
theorem al3 {r:Int} (h:aa1 r=true):adm r=true∨(adm r=false∧big r=true)∨(adm r=false∧big r=false∧aa7 r=true):=by
 unfold aa1 at h
 cases hs:adm r
 ·cases hb:big r
  ·right;right;rw [hs,hb] at h;exact ⟨rfl,rfl,by simpa using h⟩
  ·right;left;exact ⟨rfl,rfl⟩
 ·left;rfl
theorem al0 {r:Int} (h:aa1 r=false):adm r=false∧big r=false∧aa7 r=false:=by
 simp only [aa1,Bool.or_eq_false_iff] at h;exact ⟨h.1,h.2.1,h.2.2⟩
def stringWord:List UInt8:=[83,116,114,105,110,103]
def acg (s:ByteArray):Bool:=afn adm s && !(kept s.data.toList)
def ab8 (s:ByteArray):Bool:=afn big s && !(s.data.toList == stringWord)
/-! ### Reading a quote, a rune at a time: what is read so far is acc; esc: a sign stands ahead -/
def ae9 (s:ByteArray) (p:Nat) (esc:Bool) (acc:List UInt8):Prop:=(ac5 false (aid s 0)).map encs=(ac5 esc (aid s p)).map fun t=>acc ++ encs t
theorem reads_start (s:ByteArray):ae9 s 0 false []:=by unfold ae9;congr
theorem ag7 (s:ByteArray) (p:Nat) (acc:List UInt8) (h:p < s.size) (hr:(((Utf8.decode s p).1:Nat):Int)=92) (R:ae9 s p false acc):ae9 s (p+(Utf8.decode s p).2) true acc:=by
 unfold ae9 at R ⊢
 have:(Utf8.decode s p).1=92:=by omega
 rw [R,ajn s p h,this];simp [ac5]
theorem meant_nat (r:Nat) (esc:Bool) (h:ahe (r:Int) esc=true):ajx (r:Int) esc=((if esc && r == 110 then 10 else r:Nat):Int):=by
 unfold ajx
 rw [if_pos h]
 cases esc
 ·simp
 ·have:((r:Int) == 110)=(r == 110):=by rw [Bool.eq_iff_iff];simp;omega
  simp only [Bool.true_and,this]
  split<;>rfl
theorem ahy (s:ByteArray) (p:Nat) (esc:Bool) (acc:List UInt8) (h:p < s.size) (hm:ahe ((Utf8.decode s p).1:Nat) esc=true) (R:ae9 s p esc acc) :
  ae9 s (p+(Utf8.decode s p).2) false (acc ++ Lib.encodeRune (ajx ((Utf8.decode s p).1:Nat) esc)):=by
 have hn:=meant_nat _ _ hm
 unfold ae9 at R ⊢
 rw [R,ajn s p h,hn]
 generalize (Utf8.decode s p).1=r at *
 have a:∀ k:Nat,((r:Int) == (k:Int))=(r == k):=fun k=>by rw [Bool.eq_iff_iff];simp;omega
 have a34:((r:Int) == 34)=(r == 34):=a 34
 have a92:((r:Int) == 92)=(r == 92):=a 92
 have a10:((r:Int) == 10)=(r == 10):=a 10
 have a110:((r:Int) == 110)=(r == 110):=a 110
 cases esc
 ·simp only [ahe,must,a34,a92,a10,Bool.not_eq_true',Bool.or_eq_false_iff,beq_eq_false_iff_ne,Bool.false_eq_true,if_false] at hm
  simp only [ac5,hm.2.1,hm.1,hm.2.2,if_false,or_false,Option.map_map,Bool.false_and,Bool.false_eq_true]
  congr 1;funext t;simp [ai8]
 ·simp only [ahe,if_true,a34,a92,a110,Bool.or_eq_true,beq_iff_eq] at hm
  by_cases g:r=110
  ·simp only [ac5,g,if_true,Option.map_map]
   congr 1;funext t;simp [ai8]
  ·have g2:r=34∨r=92:=by rcases hm with hm|hm;exact absurd hm g;exact hm
   simp only [ac5,g,if_false,g2,if_true,Option.map_map,Bool.true_and,beq_iff_eq]
   congr 1;funext t;simp [ai8]
theorem ajr (s:ByteArray) (p:Nat) (esc:Bool) (acc:List UInt8) (h:p < s.size) (hm:ahe ((Utf8.decode s p).1:Nat) esc=false) (h92:¬ ((((Utf8.decode s p).1:Nat):Int)=92∧esc=false)) (R:ae9 s p esc acc) :
  (ac5 false (aid s 0)).map encs=none:=by
 unfold ae9 at R
 rw [R,ajn s p h]
 generalize (Utf8.decode s p).1=r at *
 have a:∀ k:Nat,((r:Int) == (k:Int))=(r == k):=fun k=>by rw [Bool.eq_iff_iff];simp;omega
 have a34:((r:Int) == 34)=(r == 34):=a 34
 have a92:((r:Int) == 92)=(r == 92):=a 92
 have a10:((r:Int) == 10)=(r == 10):=a 10
 have a110:((r:Int) == 110)=(r == 110):=a 110
 cases esc
 ·simp only [and_true] at h92
  have h92':¬ r=92:=by omega
  simp only [ahe,must,a34,a92,a10,Bool.not_eq_false',Bool.or_eq_true,beq_iff_eq,Bool.false_eq_true,if_false,h92',false_or] at hm
  simp only [ac5,h92',if_false,if_pos hm];rfl
 ·simp only [ahe,if_true,a34,a92,a110,Bool.or_eq_false_iff,beq_eq_false_iff_ne] at hm
  simp only [ac5,hm.1,hm.2.1,hm.2.2,if_false,or_false];rfl
theorem reads_end (s:ByteArray) (p:Nat) (esc:Bool) (acc:List UInt8) (h:¬ p < s.size) (R:ae9 s p esc acc) :
  (ac5 false (aid s 0)).map encs=if esc then none else some acc:=by
 unfold ae9 at R
 rw [R,runes_end s p h]
 cases esc<;>simp [ac5,encs]
theorem plain_bad (s:ByteArray) (h:0≤bad s):abf s=[]∧acf s=false:=by
 simp [abf,acf,plain,h]
theorem plain_of (s:ByteArray) (h:bad s < 0) (o:Option (List UInt8)) (ho:(ac5 false (aid s 0)).map encs=o):abf s=o.getD []∧acf s=o.isSome:=by
 have:¬ 0≤bad s:=by omega
 simp only [abf,acf,plain,this,if_false,ho]
 exact ⟨trivial,trivial⟩
theorem meant_range (s:ByteArray) (p:Nat) (esc:Bool):0≤ajx ((Utf8.decode s p).1:Nat) esc∧ajx ((Utf8.decode s p).1:Nat) esc≤1114111:=by
 have:=rune_ok s p
 unfold ajx
 split
 ·split<;>omega
 ·omega
end
set_option linter.unusedSimpArgs false
set_option linter.unusedVariables false
section
open Go.RowKit
theorem acj (r:Int) (w:World):Calls Tryz.prog 156 #[.int .i32 r] w fun e w'=>e=.returned (.bool (adm r))∧w=w':=by
 go_enter Tryz.func156,Tryz.ntmps156
 go_wp2
 all_goals (go_ret;exact ⟨by simp [adm, *]<;>omega,rfl⟩)
theorem aem (r:Int) (w:World):Calls Tryz.prog 158 #[.int .i32 r] w fun e w'=>e=.returned (.bool (big r))∧w=w':=by
 go_enter Tryz.func158,Tryz.ntmps158
 go_wp2
 all_goals (go_ret;exact ⟨by simp [big, *]<;>omega,rfl⟩)
theorem ab6 (r:Int) (w:World):Calls Tryz.prog 148 #[.int .i32 r] w fun e w'=>e=.returned (.bool (aa7 r))∧w=w':=by
 go_enter Tryz.func148,Tryz.ntmps148
 go_wp2
 all_goals (go_ret;exact ⟨by simp [aa7, *]<;>omega,rfl⟩)
theorem letterOf_any (r:Int) (w:World):Calls Tryz.prog 194 #[.int .i32 r] w fun e w'=>e=.returned (.tuple #[.int .i32 (letter r),.bool (must r)])∧w=w':=by
 go_enter Tryz.func194,Tryz.ntmps194
 go_wp2
 all_goals (go_ret2;refine ⟨?_,rfl⟩)
 all_goals (unfold letter must;simp_all)
theorem meantBy_any (r:Int) (esc:Bool) (w:World):Calls Tryz.prog 178 #[.int .i32 r,.bool esc] w fun e w'=>e=.returned (.tuple #[.int .i32 (ajx r esc),.bool (ahe r esc)])∧w=w':=by
 go_enter Tryz.func178,Tryz.ntmps178
 cases esc
 all_goals go_wp2_with (go_at_call 194;refine (letterOf_any _ _).mono ?_;rintro e w' ⟨rfl,rfl⟩)
 all_goals (go_ret2;refine ⟨?_,rfl⟩)
 all_goals (simp only [must] at *;unfold ajx ahe;simp_all [must]<;>omega)
end
section
open Go.RowKit
theorem size0 (s:ByteArray) (h:s.size=0):s=⟨#[]⟩:=by
 cases s with|mk d=>congr 1;exact Array.eq_empty_of_size_eq_zero h
theorem aix (s:ByteArray) (h:¬ s.size=0):s.toList.isEmpty=false:=by
 rw [Lib.toList_data,List.isEmpty_eq_false_iff];intro e;apply h;have:=congrArg List.length e;simpa using this
theorem aa8 (w:World) (s:ByteArray) (p:Nat):Below w.heap.size w (w.iter s p):=(Below.refl _ w).alloc (Nat.le_refl _) _
theorem ae7 (s t:ByteArray) (b:Bool) (w:World) (h:Lib.hasPrefix s.data.toList t.data.toList=b):Calls Tryz.prog 114 #[.string s,.string t] w fun e w'=>e=.returned (.bool b)∧w=w':=by
 refine (Tryz.strings_HasPrefix s t w).mono ?_
 rintro e w' ⟨rfl,rfl⟩
 exact ⟨by rw [h],rfl⟩
theorem bad_any (s:ByteArray) (w:World) (hs:s.size≤maxLen):Calls Tryz.prog 69 #[.string s] w fun e w'=>e=.returned (.int .i64 (bad s))∧Below w.heap.size w w':=by
 unfold maxLen at hs
 go_enter Tryz.func69,Tryz.ntmps69
 go_wp2
 go_loopw [] (fun wr=>∃ p:Nat,wr=w.iter s p∧p≤s.size∧ad2 s p=bad s) (fun wr=>s.size - wr.iterPos w.heap.size)
 case atStart=>exact ⟨0,rfl,Nat.zero_le _,rfl⟩
 case round =>
  obtain ⟨p,rfl,hp,hb⟩:=hrel
  by_cases hlt:p < s.size
  ·have hnx:=fun ty=>run_next_any (P:=Tryz.prog) w s p ty hlt
   have hw:=adu s p
   have hwl:=af6 s p hlt
   by_cases hF:(Utf8.decode s p).1=65533
   ·have hFb:((((Utf8.decode s p).1:Nat):Int) == 65533)=true:=by rw [beq_iff_eq];omega
    by_cases hB:af4 s p=true
    ·have hst:=aj4 s p hlt hB
     have hpf:=fffd_bad s p hB
     have Hb:=ke (hst.symm.trans hb);clear hb hst
     have Hpf:=ke hpf;clear hpf
     clear hF hB
     go_wp2_with (go_at_call 114;refine (ae7 _ _ _ _ Hpf.out).mono ?_;rintro e w' ⟨rfl,rfl⟩)
     go_ret
     exact ⟨by rw [← Hb.out];rfl,aa8 w s _⟩
    ·have hB':af4 s p=false:=by simpa using hB
     have hst:=ad5 s p hlt hB'
     have hpf:=fffd_good s p hlt hF hB'
     have Hb:=ke (hst.symm.trans hb);clear hb hst
     have Hpf:=ke hpf;clear hpf
     clear hF hB hB'
     go_wp2_with (go_at_call 114;refine (ae7 _ _ _ _ Hpf.out).mono ?_;rintro e w' ⟨rfl,rfl⟩)
     go_roundw
     case rel=>exact ⟨p+(Utf8.decode s p).2,rfl,hwl,Hb.out⟩
     case measure=>simp;omega
   ·have hFb:((((Utf8.decode s p).1:Nat):Int) == 65533)=false:=by rw [beq_eq_false_iff_ne];omega
    have hst:=ad5 s p hlt (ads (fun e=>hF (by rw [e])))
    have Hb:=ke (hst.symm.trans hb);clear hb hst
    clear hF
    go_wp2
    go_roundw
    case rel=>exact ⟨p+(Utf8.decode s p).2,rfl,hwl,Hb.out⟩
    case measure=>simp;omega
  ·have hnx:=fun ty=>run_next_end (P:=Tryz.prog) w s p ty hlt
   have he:=aio s p hlt
   have Hb:=ke (hb.symm.trans he);clear hb he
   go_wp2
   go_ret
   exact ⟨by rw [Hb.out];rfl,aa8 w s p⟩
end
section
open Go.RowKit
theorem aj6 (s:ByteArray) (w:World):Calls Tryz.prog 157 #[.string s] w fun e w'=>e=.returned (.bool (kept s.data.toList))∧w=w':=by
 go_enter Tryz.func157,Tryz.ntmps157
 rw [← Lib.toList_data]
 go_wp2
 all_goals (go_ret;refine ⟨?_,rfl⟩)
 all_goals first|(simp_all only [kept,keptWords,List.contains_cons];done)|(simp_all [kept,keptWords,List.contains_cons];done)
theorem ag5 (s:ByteArray) (w:World) (hs:s.size≤maxLen):Calls Tryz.prog 155 #[.string s,.func (.func 156) #[] #[]] w fun e w'=>e=.returned (.bool (afn adm s))∧Below w.heap.size w w':=by
 unfold maxLen at hs
 by_cases h0:s.size=0
 ·obtain rfl:=size0 s h0
  go_enter Tryz.func155,Tryz.ntmps155
  go_wp2
  go_ret
  exact ⟨by have e:(⟨#[]⟩:ByteArray).size=0:=rfl;simp [afn,e],Below.refl _ _⟩
 ·have hne:=aix s h0
  by_cases h20:20 < s.size
  ·go_enter Tryz.func155,Tryz.ntmps155
   go_wp2
   go_ret
   exact ⟨by simp [afn];omega,Below.refl _ _⟩
  ·have h20':(s.size:Int)≤20:=by omega
   go_enter Tryz.func155,Tryz.ntmps155
   go_wp2
   go_loopw [] (fun wr=>∃ p:Nat,wr=w.iter s p∧p≤s.size∧ae0 s p=ae0 s 0∧(0 < p→adm (bt s 0)=true)) (fun wr=>s.size - wr.iterPos w.heap.size)
   case atStart=>exact ⟨0,rfl,Nat.zero_le _,rfl,fun h=>by omega⟩
   case round =>
    obtain ⟨p,rfl,hp,hb,hf⟩:=hrel
    have Hb:=ke hb;clear hb
    have Hf:=ke hf;clear hf
    by_cases hlt:p < s.size
    ·have hnx:=fun ty=>run_next_any (P:=Tryz.prog) w s p ty hlt
     have hw:=adu s p
     have hwl:=af6 s p hlt
     cases hal:aa1 ((Utf8.decode s p).1:Nat)
     ·have HR:=ke (shape_no_al adm s p hlt Hb.out hal)
      obtain ⟨a1,a2,a3⟩:=al0 hal
      rcases Nat.eq_zero_or_pos p with rfl|hpos
      ·go_wp2_with (first|(go_at_call 156;refine (acj _ _).mono ?_;rintro e w' ⟨rfl,rfl⟩)|(go_at_call 158;refine (aem _ _).mono ?_;rintro e w' ⟨rfl,rfl⟩)|(go_at_call 148;refine (ab6 _ _).mono ?_;rintro e w' ⟨rfl,rfl⟩))
       go_ret
       exact ⟨by rw [HR.out];rfl,aa8 w s _⟩
      ·have hpb:((p:Int) == 0)=false:=by rw [beq_eq_false_iff_ne];omega
       go_wp2_with (first|(go_at_call 156;refine (acj _ _).mono ?_;rintro e w' ⟨rfl,rfl⟩)|(go_at_call 158;refine (aem _ _).mono ?_;rintro e w' ⟨rfl,rfl⟩)|(go_at_call 148;refine (ab6 _ _).mono ?_;rintro e w' ⟨rfl,rfl⟩))
       go_ret
       exact ⟨by rw [HR.out];rfl,aa8 w s _⟩
     ·have HS:=ke (al_next s p hlt Hb.out hal)
      rcases Nat.eq_zero_or_pos p with rfl|hpos
      ·cases hf:adm ((Utf8.decode s 0).1:Nat)
       ·have HR:=ke (aif adm s hal hf)
        clear hal
        go_wp2_with (first|(go_at_call 156;refine (acj _ _).mono ?_;rintro e w' ⟨rfl,rfl⟩)|(go_at_call 158;refine (aem _ _).mono ?_;rintro e w' ⟨rfl,rfl⟩)|(go_at_call 148;refine (ab6 _ _).mono ?_;rintro e w' ⟨rfl,rfl⟩))
        go_ret
        exact ⟨by rw [HR.out];rfl,aa8 w s _⟩
       ·have HF:=ke (first_next adm s hal hf)
        rcases al3 hal with a1|⟨a1,a2⟩|⟨a1,a2,a3⟩
        all_goals clear hal
        all_goals go_wp2_with (first|(go_at_call 156;refine (acj _ _).mono ?_;rintro e w' ⟨rfl,rfl⟩)|(go_at_call 158;refine (aem _ _).mono ?_;rintro e w' ⟨rfl,rfl⟩)|(go_at_call 148;refine (ab6 _ _).mono ?_;rintro e w' ⟨rfl,rfl⟩))
        all_goals go_roundw
        all_goals first|exact ⟨_,rfl,by first|exact hwl|simpa using hwl,by first|exact HS.out|simpa using HS.out,fun _=>HF.out⟩|(simp;omega)
      ·have hpb:((p:Int) == 0)=false:=by rw [beq_eq_false_iff_ne];omega
       have HF:=ke (Hf.out hpos)
       rcases al3 hal with a1|⟨a1,a2⟩|⟨a1,a2,a3⟩
       all_goals clear hal
       all_goals go_wp2_with (first|(go_at_call 156;refine (acj _ _).mono ?_;rintro e w' ⟨rfl,rfl⟩)|(go_at_call 158;refine (aem _ _).mono ?_;rintro e w' ⟨rfl,rfl⟩)|(go_at_call 148;refine (ab6 _ _).mono ?_;rintro e w' ⟨rfl,rfl⟩))
       all_goals go_roundw
       all_goals first|exact ⟨p+(Utf8.decode s p).2,rfl,hwl,HS.out,fun _=>HF.out⟩|(simp;omega)
    ·have hnx:=fun ty=>run_next_end (P:=Tryz.prog) w s p ty hlt
     have he:=allAl_end s p hlt
     have HR:Hid (afn adm s=true):=by
      show afn adm s=true
      rw [afn,← Hb.out,he,Hf.out (by omega)];simp;omega
     clear he
     go_wp2
     go_ret
     exact ⟨by rw [HR.out];rfl,aa8 w s p⟩
end
section
open Go.RowKit
theorem shaped_big (s:ByteArray) (w:World) (hs:s.size≤maxLen):Calls Tryz.prog 155 #[.string s,.func (.func 158) #[] #[]] w fun e w'=>e=.returned (.bool (afn big s))∧Below w.heap.size w w':=by
 unfold maxLen at hs
 by_cases h0:s.size=0
 ·obtain rfl:=size0 s h0
  go_enter Tryz.func155,Tryz.ntmps155
  go_wp2
  go_ret
  exact ⟨by have e:(⟨#[]⟩:ByteArray).size=0:=rfl;simp [afn,e],Below.refl _ _⟩
 ·have hne:=aix s h0
  by_cases h20:20 < s.size
  ·go_enter Tryz.func155,Tryz.ntmps155
   go_wp2
   go_ret
   exact ⟨by simp [afn];omega,Below.refl _ _⟩
  ·have h20':(s.size:Int)≤20:=by omega
   go_enter Tryz.func155,Tryz.ntmps155
   go_wp2
   go_loopw [] (fun wr=>∃ p:Nat,wr=w.iter s p∧p≤s.size∧ae0 s p=ae0 s 0∧(0 < p→big (bt s 0)=true)) (fun wr=>s.size - wr.iterPos w.heap.size)
   case atStart=>exact ⟨0,rfl,Nat.zero_le _,rfl,fun h=>by omega⟩
   case round =>
    obtain ⟨p,rfl,hp,hb,hf⟩:=hrel
    have Hb:=ke hb;clear hb
    have Hf:=ke hf;clear hf
    by_cases hlt:p < s.size
    ·have hnx:=fun ty=>run_next_any (P:=Tryz.prog) w s p ty hlt
     have hw:=adu s p
     have hwl:=af6 s p hlt
     cases hal:aa1 ((Utf8.decode s p).1:Nat)
     ·have HR:=ke (shape_no_al big s p hlt Hb.out hal)
      obtain ⟨a1,a2,a3⟩:=al0 hal
      rcases Nat.eq_zero_or_pos p with rfl|hpos
      ·go_wp2_with (first|(go_at_call 156;refine (acj _ _).mono ?_;rintro e w' ⟨rfl,rfl⟩)|(go_at_call 158;refine (aem _ _).mono ?_;rintro e w' ⟨rfl,rfl⟩)|(go_at_call 148;refine (ab6 _ _).mono ?_;rintro e w' ⟨rfl,rfl⟩))
       go_ret
       exact ⟨by rw [HR.out];rfl,aa8 w s _⟩
      ·have hpb:((p:Int) == 0)=false:=by rw [beq_eq_false_iff_ne];omega
       go_wp2_with (first|(go_at_call 156;refine (acj _ _).mono ?_;rintro e w' ⟨rfl,rfl⟩)|(go_at_call 158;refine (aem _ _).mono ?_;rintro e w' ⟨rfl,rfl⟩)|(go_at_call 148;refine (ab6 _ _).mono ?_;rintro e w' ⟨rfl,rfl⟩))
       go_ret
       exact ⟨by rw [HR.out];rfl,aa8 w s _⟩
     ·have HS:=ke (al_next s p hlt Hb.out hal)
      rcases Nat.eq_zero_or_pos p with rfl|hpos
      ·cases hf:big ((Utf8.decode s 0).1:Nat)
       ·have HR:=ke (aif big s hal hf)
        clear hal
        go_wp2_with (first|(go_at_call 156;refine (acj _ _).mono ?_;rintro e w' ⟨rfl,rfl⟩)|(go_at_call 158;refine (aem _ _).mono ?_;rintro e w' ⟨rfl,rfl⟩)|(go_at_call 148;refine (ab6 _ _).mono ?_;rintro e w' ⟨rfl,rfl⟩))
        go_ret
        exact ⟨by rw [HR.out];rfl,aa8 w s _⟩
       ·have HF:=ke (first_next big s hal hf)
        rcases al3 hal with a1|⟨a1,a2⟩|⟨a1,a2,a3⟩
        all_goals clear hal
        all_goals go_wp2_with (first|(go_at_call 156;refine (acj _ _).mono ?_;rintro e w' ⟨rfl,rfl⟩)|(go_at_call 158;refine (aem _ _).mono ?_;rintro e w' ⟨rfl,rfl⟩)|(go_at_call 148;refine (ab6 _ _).mono ?_;rintro e w' ⟨rfl,rfl⟩))
        all_goals go_roundw
        all_goals first|exact ⟨_,rfl,by first|exact hwl|simpa using hwl,by first|exact HS.out|simpa using HS.out,fun _=>HF.out⟩|(simp;omega)
      ·have hpb:((p:Int) == 0)=false:=by rw [beq_eq_false_iff_ne];omega
       have HF:=ke (Hf.out hpos)
       rcases al3 hal with a1|⟨a1,a2⟩|⟨a1,a2,a3⟩
       all_goals clear hal
       all_goals go_wp2_with (first|(go_at_call 156;refine (acj _ _).mono ?_;rintro e w' ⟨rfl,rfl⟩)|(go_at_call 158;refine (aem _ _).mono ?_;rintro e w' ⟨rfl,rfl⟩)|(go_at_call 148;refine (ab6 _ _).mono ?_;rintro e w' ⟨rfl,rfl⟩))
       all_goals go_roundw
       all_goals first|exact ⟨p+(Utf8.decode s p).2,rfl,hwl,HS.out,fun _=>HF.out⟩|(simp;omega)
    ·have hnx:=fun ty=>run_next_end (P:=Tryz.prog) w s p ty hlt
     have he:=allAl_end s p hlt
     have HR:Hid (afn big s=true):=by
      show afn big s=true
      rw [afn,← Hb.out,he,Hf.out (by omega)];simp;omega
     clear he
     go_wp2
     go_ret
     exact ⟨by rw [HR.out];rfl,aa8 w s p⟩
theorem akg (s:ByteArray) (w:World) (hs:s.size≤maxLen):Calls Tryz.prog 115 #[.string s] w fun e w'=>e=.returned (.bool (acg s))∧Below w.heap.size w w':=by
 go_enter Tryz.func115,Tryz.ntmps115
 cases h1:afn adm s
 ·have HR:Hid (acg s=false):=by show acg s=false;simp [acg,h1]
  go_wp2_with (first|(go_at_call 155;refine (ag5 _ _ hs).mono ?_;rintro e w1 ⟨rfl,hb⟩))
  go_ret
  exact ⟨by rw [HR.out];rfl,hb⟩
 ·cases h2:kept s.data.toList
  ·have HR:Hid (acg s=true):=by show acg s=true;simp [acg,h1,h2]
   go_wp2_with (first|(go_at_call 155;refine (ag5 _ _ hs).mono ?_;rintro e w1 ⟨rfl,hb⟩)|(go_at_call 157;refine (aj6 _ _).mono ?_;rintro e w2 ⟨rfl,rfl⟩))
   go_ret
   exact ⟨by rw [HR.out];rfl,hb⟩
  ·have HR:Hid (acg s=false):=by show acg s=false;simp [acg,h2]
   go_wp2_with (first|(go_at_call 155;refine (ag5 _ _ hs).mono ?_;rintro e w1 ⟨rfl,hb⟩)|(go_at_call 157;refine (aj6 _ _).mono ?_;rintro e w2 ⟨rfl,rfl⟩))
   go_ret
   exact ⟨by rw [HR.out];rfl,hb⟩
theorem ahm (s:ByteArray) (w:World) (hs:s.size≤maxLen):Calls Tryz.prog 116 #[.string s] w fun e w'=>e=.returned (.bool (ab8 s))∧Below w.heap.size w w':=by
 go_enter Tryz.func116,Tryz.ntmps116
 cases h1:afn big s
 ·have HR:Hid (ab8 s=false):=by show ab8 s=false;simp [ab8,h1]
  go_wp2_with (first|(go_at_call 155;refine (shaped_big _ _ hs).mono ?_;rintro e w1 ⟨rfl,hb⟩))
  go_ret
  exact ⟨by rw [HR.out];rfl,hb⟩
 ·go_wp2_with (first|(go_at_call 155;refine (shaped_big _ _ hs).mono ?_;rintro e w1 ⟨rfl,hb⟩))
  go_ret
  exact ⟨by rw [show ab8 s=!(s.toList == [83,116,114,105,110,103]) from by rw [ab8,h1,Lib.toList_data];rfl];rfl,hb⟩
end
section
open Go.RowKit
def Bld (B b:Nat) (l:List UInt8) (w:World):Prop:=Lib.IsBuilderF 199 5 B b (Lib.byteCells l) w
theorem wrune (B b:Nat) (l:List UInt8) (r:Int) (h0:0≤r) (h1:r≤1114111) (w:World) (h:Bld B b l w) (hl:l.length≤70368744177664) (hBw:B≤w.heap.size) :
  Calls Tryz.prog 179 #[.pointer (some ⟨b,0,none⟩),.int .i32 r] w fun e w'=>(∃ n:Nat,e=.returned (.tuple #[.int .i64 n,.nilIface]))∧Bld B b (l ++ Lib.encodeRune r) w'∧Below B w w'∧Lib.OthersKept 5 (some b) w w':=by
 refine (Tryz.Builder_WriteRune_k B b _ r (by omega) (by omega) w h (by rw [Lib.byteCells_length];omega) hBw).mono ?_
 rintro e w' ⟨rfl,h1,b1,k1⟩
 refine ⟨⟨_,rfl⟩,?_,b1,k1⟩
 unfold Bld
 rw [Lib.byteCells_append,Lib.byteCells_encodeRune]
 exact Or.inr h1
theorem bstring (B b:Nat) (l:List UInt8) (w:World) (h:Bld B b l w) (hBw:B≤w.heap.size) :
  Calls Tryz.prog 180 #[.pointer (some ⟨b,0,none⟩)] w fun e w'=>e=.returned (.string ⟨l.toArray⟩)∧Bld B b l w'∧Below B w w'∧Lib.OthersKept 5 (some b) w w' :=
 Tryz.Builder_String_any_k B b l w h hBw
theorem bnew (w:World):Bld w.heap.size w.heap.size [] (w.alloc (.cells #[.pointer none,.slice none 0 0] 199)):=Lib.IsBuilderF.of (Lib.fresh_isBuilder 199 5 w)
theorem Bld.iterAt {B b:Nat} {l:List UInt8} {w:World} (h:Bld B b l w) {k:Nat} {s:ByteArray} {p:Nat} (hk:w.heap[k]?=some (.stringIter s p)) (p':Nat):Bld B b l (w.iterAt k s p'):=Lib.IsBuilderF.iterAt h hk p'
theorem Bld.alloc {B b:Nat} {l:List UInt8} {w:World} (h:Bld B b l w) (o:Obj):Bld B b l (w.alloc o):=Lib.IsBuilderF.alloc h o
end
section
open Go.RowKit
theorem ret_sb (a b:ByteArray) (x y:Bool) (h1:a=b) (h2:x=y):Ending.returned (.tuple #[.string a,.bool x])=.returned (.tuple #[.string b,.bool y]):=by rw [h1,h2]
theorem plain_any (s:ByteArray) (w:World) (hs:s.size≤16777216):Calls Tryz.prog 152 #[.string s] w fun e w'=>e=.returned (.tuple #[.string ⟨(abf s).toArray⟩,.bool (acf s)])∧Below w.heap.size w w':=by
 by_cases hbad:0≤bad s
 ·obtain ⟨r1,r2⟩:=plain_bad s hbad
  have R1:=ke r1;clear r1
  have R2:=ke r2;clear r2
  go_enter Tryz.func152,Tryz.ntmps152
  go_wp2_with (go_at_call 69;refine (bad_any _ _ (by unfold maxLen;omega)).mono ?_;rintro e w1 ⟨rfl,hb1⟩)
  go_ret2
  exact ⟨by rw [R1.out,R2.out];rfl,hb1⟩
 ·have hbad':bad s < 0:=by omega
  go_enter Tryz.func152,Tryz.ntmps152
  go_wp2_with (go_at_call 69;refine (bad_any _ _ (by unfold maxLen;omega)).mono ?_;rintro e w1 ⟨rfl,hb1⟩)
  have hw1:=hb1.size
  have PO:=ke (plain_of s hbad')
  have hI0:=bnew w1
  have bb:Below w.heap.size w (w1.alloc (.cells #[.pointer none,.slice none 0 0] 199)):=hb1.alloc (by omega) _
  go_loopw [5] (fun v5 wr=>∃ (p:Nat) (esc:Bool) (acc:List UInt8),v5=.bool esc∧Bld w1.heap.size w1.heap.size acc wr∧wr.heap[w1.heap.size+1]?=some (.stringIter s p)∧Below w.heap.size w wr∧ae9 s p esc acc∧acc.length≤4 * p∧p≤s.size) (fun v5 wr=>s.size - wr.iterPos (w1.heap.size+1))
  case atStart =>
   refine ⟨0,false,[],rfl,hI0.alloc _,?_,bb.alloc (by simp;omega) _,reads_start s,by simp,Nat.zero_le _⟩
   have:=World.iter_heap (w1.alloc (.cells #[.pointer none,.slice none 0 0] 199)) s 0
   simpa using this
  case round =>
   obtain ⟨p,esc,acc,rfl,hI,hit,hbw,hR,hal,hp⟩:=hrel
   have hsz:w1.heap.size+1 < wr.heap.size:=(Array.getElem?_eq_some_iff.1 hit).1
   have HR:=ke hR;clear hR
   by_cases hlt:p < s.size
   ·have hnx:=fun ty=>Lib.run_next_any_at (P:=Tryz.prog) wr (w1.heap.size+1) s p ty hit hlt
    have hw:=adu s p
    have hwl:=af6 s p hlt
    have hI2:=hI.iterAt hit (p+(Utf8.decode s p).2)
    have hit2:=Lib.iterAt_heap wr (w1.heap.size+1) s p (p+(Utf8.decode s p).2) hit
    have hbw2:=Lib.below_iterAt hbw (k:=w1.heap.size+1) (by omega) s (p+(Utf8.decode s p).2)
    have hsz2:w1.heap.size≤(wr.iterAt (w1.heap.size+1) s (p+(Utf8.decode s p).2)).heap.size:=by rw [Lib.iterAt_size];omega
    by_cases h92:(((Utf8.decode s p).1:Nat):Int)=92∧esc=false
    ·obtain ⟨g,rfl⟩:=h92
     have HN:=ke (ag7 s p acc hlt g HR.out)
     have h92b:((((Utf8.decode s p).1:Nat):Int) == 92)=true:=by rw [beq_iff_eq];exact g
     clear g
     go_wp2
     go_roundw
     case rel=>exact ⟨p+(Utf8.decode s p).2,true,acc,rfl,hI2,hit2,hbw2,HN.out,by omega,hwl⟩
     case measure=>simp only [World.iterPos,hit2,hit];omega
    ·have hreg:((((Utf8.decode s p).1:Nat):Int) == 92)=false∨(((((Utf8.decode s p).1:Nat):Int) == 92)=true∧esc=true):=by
      by_cases g:(((Utf8.decode s p).1:Nat):Int)=92
      ·right;refine ⟨by rw [beq_iff_eq];exact g,?_⟩
       cases esc
       ·exact absurd ⟨g,rfl⟩ h92
       ·rfl
      ·left;rw [beq_eq_false_iff_ne];exact g
     cases hm:ahe ((Utf8.decode s p).1:Nat) esc
     ·have hn:=PO.out _ (ajr s p esc acc hlt hm h92 HR.out)
      have HN:=ke hn;clear hn h92
      rcases hreg with hreg|⟨hreg,rfl⟩
      all_goals go_wp2_with (go_at_call 178;refine (meantBy_any _ _ _).mono ?_;rintro e w' ⟨rfl,rfl⟩)
      all_goals go_ret2
      all_goals exact ⟨ret_sb _ _ _ _ (by rw [HN.out.1];rfl) (by rw [HN.out.2];rfl),hbw2⟩
     ·have HN:=ke (ahy s p esc acc hlt hm HR.out)
      have hmr:=meant_range s p esc
      have hle:=enc_len (ajx ((Utf8.decode s p).1:Nat) esc)
      clear h92
      rcases hreg with hreg|⟨hreg,rfl⟩
      all_goals go_wp2_with (first|(go_at_call 178;refine (meantBy_any _ _ _).mono ?_;rintro e w' ⟨rfl,rfl⟩)|(go_at_call 179;refine (wrune w1.heap.size w1.heap.size acc _ hmr.1 hmr.2 _ hI2 (by omega) hsz2).mono ?_))
      all_goals (
       rintro e W2 ⟨⟨n2,rfl⟩,h2,b2,k2⟩
       have hit3:=k2.iter hit2 (by omega)
       have hb3:=hbw2.trans (b2.mono hw1)
       go_wp2
       go_roundw
       case rel=>exact ⟨p+(Utf8.decode s p).2,false,_,rfl,h2,hit3,hb3,HN.out,by simp;omega,hwl⟩
       case measure=>simp only [World.iterPos,hit3,hit];omega)
   ·have hnx:=fun ty=>Lib.run_next_end_at (P:=Tryz.prog) wr (w1.heap.size+1) s p ty hit hlt
    have hn:=PO.out _ (reads_end s p esc acc hlt HR.out)
    have hsz2:w1.heap.size≤wr.heap.size:=by omega
    cases esc
    ·have HN:=ke hn;clear hn
     go_wp2_with (go_at_call 180;refine (bstring w1.heap.size w1.heap.size acc _ hI hsz2).mono ?_)
     rintro e W3 ⟨rfl,h4,b4,k4⟩
     go_wp2
     go_ret2
     exact ⟨ret_sb _ _ _ _ (by rw [HN.out.1];rfl) (by rw [HN.out.2];rfl),hbw.trans (b4.mono hw1)⟩
    ·have HN:=ke hn;clear hn
     go_wp2
     go_ret2
     exact ⟨ret_sb _ _ _ _ (by rw [HN.out.1];rfl) (by rw [HN.out.2];rfl),hbw⟩
end
end Go.Proofs.YtddnnohfbagbnaaGreatDoor
