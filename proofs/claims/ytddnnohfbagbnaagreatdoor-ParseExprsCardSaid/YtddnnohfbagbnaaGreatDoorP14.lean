/- Parts of the proof: Ref, RefB, RefC, RefC2, RefC4. -/
import Derived.Test.YtddnnohfbagbnaaGreatDoorHi
import Derived.Test.YtddnnohfbagbnaaGreatDoorP42
import Derived.Test.YtddnnohfbagbnaaGreatDoorP5
import Derived.Lib.Hide
import Derived.WalkKit
import Derived.BigCall
import Derived.Deep.QuietTactic
import Derived.BigQuiet
import Derived.Laws.BitsLemmas
set_option maxHeartbeats 2000000
set_option maxRecDepth 100000
namespace Go.Proofs.YtddnnohfbagbnaaGreatDoor
set_option linter.unusedSimpArgs false
set_option linter.unusedVariables false
section
open Go.RowKit
theorem agc (r:Int) (w:World):Calls Tryz.prog 94 #[.int .i32 r] w fun e w'=>e=.returned (.bool (adm r))∧w=w':=by
 go_enter Tryz.func94,Tryz.ntmps94
 go_wp2
 all_goals (go_ret;exact ⟨by simp [adm, *]<;>omega,rfl⟩)
theorem aiv (r:Int) (w:World):Calls Tryz.prog 93 #[.int .i32 r] w fun e w'=>e=.returned (.bool (big r))∧w=w':=by
 go_enter Tryz.func93,Tryz.ntmps93
 go_wp2
 all_goals (go_ret;exact ⟨by simp [big, *]<;>omega,rfl⟩)
theorem aax (r:Int) (w:World):Calls Tryz.prog 81 #[.int .i32 r] w fun e w'=>e=.returned (.bool (aa7 r))∧w=w':=by
 go_enter Tryz.func81,Tryz.ntmps81
 go_wp2
 all_goals (go_ret;exact ⟨by simp [aa7, *]<;>omega,rfl⟩)
def acb (ss:List ByteArray) (s:ByteArray):Bool:=(ss.map fun x=>x.data.toList).contains s.data.toList
theorem hasText_take (ss:List ByteArray) (s:ByteArray) (k:Nat) (h:k < ss.length):acb (ss.take (k+1)) s=(acb (ss.take k) s || ((ss.getD k ByteArray.empty).toList == s.toList)):=by
 unfold acb
 have e:ss.getD k ByteArray.empty=ss[k]:=by simp [List.getD,h]
 rw [List.take_succ_eq_append_getElem h,List.map_append,List.contains_append,e,Lib.toList_data,Lib.toList_data]
 simp only [List.map_cons,List.map_nil,List.contains_cons,List.contains_nil,Bool.or_false]
 rw [Bool.beq_comm]
theorem hasText_more (ss:List ByteArray) (s:ByteArray) (k:Nat) (h:acb (ss.take k) s=true):acb ss s=true:=by
 unfold acb at *
 rw [List.contains_iff_mem] at *
 rw [List.mem_map] at *
 obtain ⟨a,ha,e⟩:=h
 exact ⟨a,List.mem_of_mem_take ha,e⟩
theorem in_any (b off n cap:Nat) (ss:List ByteArray) (s:ByteArray) (w:World) (hnl:n=ss.length) (hn:ss.length≤1048576) (hc:∀ k:Nat,k < ss.length→w.cell? ⟨b,off+k,none⟩=some (.string (ss.getD k ByteArray.empty))) :
  Calls Tryz.prog 85 #[.slice (some ⟨b,off,none⟩) n cap,.string s] w fun e w'=>e=.returned (.bool (acb ss s))∧w=w':=by
 subst hnl
 go_enter Tryz.func85,Tryz.ntmps85
 go_wp2
 go_loop [5] (fun i=>∃ k:Nat,k≤ss.length∧i=.int .i64 k∧acb (ss.take k) s=false) (fun i=>ss.length - (intOf i).toNat)
 case atStart=>exact ⟨0,Nat.zero_le _,rfl,by simp [acb]⟩
 case round =>
  obtain ⟨k,hk,rfl,hh⟩:=hrel
  by_cases hlt:k < ss.length
  ·obtain ⟨x,hcell,hst⟩:∃ x:ByteArray,w.cell? ⟨b,off+k,none⟩=some (.string x)∧acb (ss.take (k+1)) s=(acb (ss.take k) s || (x.toList == s.toList)):=⟨_,hc k hlt,hasText_take ss s k hlt⟩
   clear hc
   rw [hh,Bool.false_or] at hst
   cases he:x.toList == s.toList
   ·rw [he] at hst
    have HS:=ke hst;clear hst hh
    go_wp2
    go_round
    case rel=>exact ⟨k+1,by omega,by go_num,HS.out⟩
    case measure=>simp [intOf];omega
   ·rw [he] at hst
    have HS:=ke (hasText_more ss s _ hst);clear hst hh
    go_wp2
    go_ret
    exact ⟨by rw [HS.out];rfl,rfl⟩
  ·obtain rfl:k=ss.length:=by omega
   rw [List.take_length] at hh
   have HS:=ke hh;clear hh
   go_wp2
   go_ret
   exact ⟨by rw [HS.out];rfl,rfl⟩
theorem cells_lit (w:World) (T:TypeId) (vs:Array Value) (ss:List ByteArray) (h:vs=(ss.map Value.string).toArray):∀ k:Nat,k < ss.length→(w.alloc (.cells vs T)).cell? ⟨w.heap.size,0+k,none⟩=some (.string (ss.getD k ByteArray.empty)):=by
 intro k hk
 subst h
 have e:ss.getD k ByteArray.empty=ss[k]:=by simp [List.getD,hk]
 rw [e]
 rw [World.cell?_alloc_new]
 simp [hk]
end
section
open Go.RowKit
def keptTexts:List ByteArray:=keptWords.map fun l=>⟨l.toArray⟩
theorem rkept_any (s:ByteArray) (w:World):Calls Tryz.prog 95 #[.string s] w fun e w'=>e=.returned (.bool (kept s.data.toList))∧Below w.heap.size w w':=by
 go_enter Tryz.func95,Tryz.ntmps95
 go_wp2_with (go_at_call 85;refine (in_any _ _ _ _ keptTexts _ _ rfl (by decide) (cells_lit _ _ _ _ rfl)).mono ?_;rintro e w' ⟨rfl,rfl⟩)
 go_ret
 exact ⟨rfl,(Below.refl _ w).alloc (Nat.le_refl _) _⟩
def afj (s:ByteArray) (m:Int):Bool:=ae0 s 0 && (decide (1≤s.size) && decide ((s.size:Int)≤m))
theorem letters_no (s:ByteArray) (m:Int) (p:Nat) (h:p < s.size) (hb:ae0 s p=ae0 s 0) (ha:aa1 (bt s p)=false):afj s m=false:=by
 have:=aia s p h
 rw [ha,Bool.false_and,hb] at this
 simp [afj,this]
theorem al_next' (s:ByteArray) (p:Nat) (h:p < s.size) (hb:ae0 s p=ae0 s 0) (ha:aa1 (bt s p)=true):ae0 s (p+1)=ae0 s 0:=by
 have:=aia s p h
 rw [ha,Bool.true_and,hb] at this
 exact this.symm
theorem rletters_any (s:ByteArray) (m:Int) (w:World) (hs:s.size≤maxLen) (hm0:0≤m) (hm1:m≤1000):Calls Tryz.prog 92 #[.string s,.int .i64 m] w fun e w'=>e=.returned (.bool (afj s m))∧w=w':=by
 unfold maxLen at hs
 go_enter Tryz.func92,Tryz.ntmps92
 go_wp2
 go_loop [5] (fun i=>∃ k:Nat,k≤s.size∧i=.int .i64 k∧ae0 s k=ae0 s 0) (fun i=>s.size - (intOf i).toNat)
 case atStart=>exact ⟨0,Nat.zero_le _,rfl,rfl⟩
 case round =>
  obtain ⟨k,hk,rfl,hh⟩:=hrel
  have HH:=ke hh;clear hh
  by_cases hlt:k < s.size
  ·have hbt:=abu s k hlt
   have hb256:=ac2 s k
   cases hal:aa1 (bt s k)
   ·have HR:=ke (letters_no s m k hlt HH.out hal)
    obtain ⟨a1,a2,a3⟩:=al0 hal
    go_wp2_with (first|(go_at_call 94;refine (agc _ _).mono ?_;rintro e w' ⟨rfl,rfl⟩)|(go_at_call 93;refine (aiv _ _).mono ?_;rintro e w' ⟨rfl,rfl⟩)|(go_at_call 81;refine (aax _ _).mono ?_;rintro e w' ⟨rfl,rfl⟩))
    go_ret
    exact ⟨by rw [HR.out];rfl,rfl⟩
   ·have HR:=ke (al_next' s k hlt HH.out hal)
    rcases al3 hal with a1|⟨a1,a2⟩|⟨a1,a2,a3⟩
    all_goals clear hal
    all_goals go_wp2_with (first|(go_at_call 94;refine (agc _ _).mono ?_;rintro e w' ⟨rfl,rfl⟩)|(go_at_call 93;refine (aiv _ _).mono ?_;rintro e w' ⟨rfl,rfl⟩)|(go_at_call 81;refine (aax _ _).mono ?_;rintro e w' ⟨rfl,rfl⟩))
    all_goals go_round
    all_goals first|exact ⟨k+1,by omega,by go_num,HR.out⟩|(simp [intOf];omega)
  ·have he:=allAl_end s k hlt
   rw [HH.out] at he
   have HE:=ke he;clear he
   go_wp2
   all_goals (go_ret;refine ⟨?_,rfl⟩)
   ·have g1:(1:Int)≤s.size:=by assumption
    have g2:1≤s.size:=by omega
    rw [show afj s m=decide ((s.size:Int)≤m) from by simp only [afj,HE.out,Bool.true_and,decide_eq_true g2]];rfl
   ·have g1:(s.size:Int) < 1:=by assumption
    have g2:¬ 1≤s.size:=by omega
    rw [show afj s m=false from by simp only [afj,HE.out,Bool.true_and,decide_eq_false g2,Bool.false_and]];rfl
end
section
open Go.RowKit
def ad7 (s:ByteArray) (p m:Nat):Nat→Nat
 | 0=>0
 | 1=>bt s p % m
 | k+2=>ad7 s p m (k+1) * 64+bt s (p+k+1) % 64
theorem ae1 (s:ByteArray) (p m k:Nat) (h:1≤k):ad7 s p m (k+1)=ad7 s p m k * 64+bt s (p+k) % 64:=by
 obtain ⟨j,rfl⟩:∃ j,k=j+1:=⟨k - 1,by omega⟩
 rfl
theorem ahp (s:ByteArray) (p m:Nat) (hm:0 < m) (hm2:m≤32):∀ k,k≤4→ad7 s p m k < 8388608∧(k≤3→ad7 s p m k < 131072)∧(k≤2→ad7 s p m k < 2048)∧(k≤1→ad7 s p m k < 32):=by
 intro k hk
 have h0:=Nat.mod_lt (bt s p) hm
 have h1:=Nat.mod_lt (bt s (p+0+1)) (show 0 < 64 by decide)
 have h2:=Nat.mod_lt (bt s (p+1+1)) (show 0 < 64 by decide)
 have h3:=Nat.mod_lt (bt s (p+2+1)) (show 0 < 64 by decide)
 match k,hk with
 | 0,_=>simp [ad7]
 | 1,_=>simp only [ad7];omega
 | 2,_=>simp only [ad7];omega
 | 3,_=>simp only [ad7];omega
 | 4,_=>simp only [ad7];omega
theorem aew (x:Int) (h0:0≤x) (h1:x < 256):bits .and .i64 x 63=x % 64:=bits_mask .i64 8 (by decide) (fun n a b=>by rw [IntKind.wrap_i64];omega) 6 (by decide) x h0 h1
theorem i32_and31 (x:Int) (h0:0≤x) (h1:x < 256):bits .and .i32 x 31=x % 32:=bits_mask .i32 8 (by decide) (fun n a b=>by rw [IntKind.wrap_i32];omega) 5 (by decide) x h0 h1
theorem ai5 (x:Int) (h0:0≤x) (h1:x < 256):bits .and .i32 x 15=x % 16:=bits_mask .i32 8 (by decide) (fun n a b=>by rw [IntKind.wrap_i32];omega) 4 (by decide) x h0 h1
theorem i32_and7 (x:Int) (h0:0≤x) (h1:x < 256):bits .and .i32 x 7=x % 8:=bits_mask .i32 8 (by decide) (fun n a b=>by rw [IntKind.wrap_i32];omega) 3 (by decide) x h0 h1
def ab9 (s:ByteArray) (p:Nat) (w:World):Prop :=
 Calls Tryz.prog 80 #[.string s,.int .i64 p] w fun e w'=>e=.returned (.agg #[.int .i32 ((Utf8.decode s p).1:Nat),.int .i64 ((Utf8.decode s p).2:Nat),.bool (af4 s p)])∧Below w.heap.size w w'
theorem aag (w:World) (c:Array Value) (T:TypeId):Below w.heap.size w (w.alloc (.cells c T)):=(Below.refl _ w).alloc (Nat.le_refl _) _
theorem dbad (s:ByteArray) (p:Nat) (h:128≤bt s p) (h2:¬ K2 s p) (h3:¬ K3 s p) (h4:¬ K4 s p):Utf8.decode s p=(65533,1):=by
 rcases ai9 s p with ⟨k,_⟩|⟨k,_⟩|⟨k,_⟩|⟨k,_⟩|⟨_,_,_,_,e⟩
 ·omega
 ·exact absurd k h2
 ·exact absurd k h3
 ·exact absurd k h4
 ·exact e
end
section
open Go.RowKit
theorem one3b (s:ByteArray) (p:Nat) (w:World) (hs:s.size≤16777216) (hp:p < s.size) (h1:225≤bt s p) (h2:bt s p≤236) (hn:p+3≤s.size):ab9 s p w:=by
 unfold ab9
 have hbt:=abu s p hp
 have hpn:(p:Int)+3≤s.size:=by omega
 have i0:128≤((bt s p:Nat):Int):=by omega
 have i1:194≤((bt s p:Nat):Int):=by omega
 have i2:223 < ((bt s p:Nat):Int):=by omega
 have i3:224≤((bt s p:Nat):Int):=by omega
 have i4:((bt s p:Nat):Int)≤239:=by omega
 have q224:(((bt s p:Nat):Int) == 224)=false:=by rw [beq_eq_false_iff_ne];omega
 have q237:(((bt s p:Nat):Int) == 237)=false:=by rw [beq_eq_false_iff_ne];omega
 have hand:=ai5 (bt s p) (by omega) (by omega)
 go_enter Tryz.func80,Tryz.ntmps80
 go_wp2
 go_loopw [9,10] (fun r k w1=>w1=w.alloc (.cells #[.int .i32 0,.int .i64 0,.bool false] 130)∧∃ j:Nat,1≤j∧j≤3∧k=.int .i64 j∧r=.int .i32 (ad7 s p 16 j:Nat)∧(2≤j→128≤bt s (p+1)∧bt s (p+1)≤191)∧(3≤j→128≤bt s (p+2)∧bt s (p+2)≤191)∧(4≤j→128≤bt s (p+3)∧bt s (p+3)≤191)) (fun r k w1=>3 - (intOf k).toNat)
 case atStart=>exact ⟨rfl,1,by omega,by omega,rfl,by simp [ad7],fun h=>by omega,fun h=>by omega,fun h=>by omega⟩
 case round =>
  obtain ⟨rfl,j,hj1,hj2,rfl,rfl,g1,g2,g3⟩:=hrel
  have G1:=ke g1;clear g1
  have G2:=ke g2;clear g2
  have G3:=ke g3;clear g3
  clear hand hbt
  by_cases hlt:j < 3
  ·have hpj:p+j < s.size:=by omega
   have hbt:=abu s (p+j) hpj
   have hb256:=ac2 s (p+j)
   have hand:=aew (bt s (p+j)) (by omega) (by omega)
   have hacc:=ahp s p 16 (by omega) (by omega) j (by omega)
   have hj64:(j:Int) < 3:=by omega
   have HN:=ke (ae1 s p 16 j hj1)
   rcases Nat.lt_or_ge 1 j with hj|hj
   ·have hjb:((j:Int) == 1)=false:=by rw [beq_eq_false_iff_ne];omega
    by_cases c1:128≤bt s (p+j)∧bt s (p+j)≤191
    ·obtain ⟨c1,c2⟩:=c1
     have c1':128≤((bt s (p+j):Nat):Int):=by omega
     have c2':((bt s (p+j):Nat):Int)≤191:=by omega
     go_wp2
     go_roundw
     case rel =>
      refine ⟨trivial,j+1,by omega,by omega,by go_num,?_,fun g=>G1.out (by omega),fun g=>?_,fun g=>?_⟩
      ·rw [HN.out];go_num
      ·by_cases e:j=2
       ·subst e;exact ⟨c1,c2⟩
       ·exact G2.out (by omega)
      ·by_cases e:j=3
       ·subst e;exact ⟨c1,c2⟩
       ·exact G3.out (by omega)
     case measure=>simp [intOf];omega
    ·have HD:Hid (Utf8.decode s p=(65533,1)):=by
      apply dbad s p (by omega)
      ·intro k;have:=k.2.1;omega
      ·intro k;obtain ⟨_,_,_,_,_,_,_,_,_⟩:=k
       have e:j=2:=by omega
       subst e;omega
      ·intro k;obtain ⟨_,_,_,_,_,_,_,_,_,_,_⟩:=k
       have e:j=2∨j=3:=by omega
       rcases e with rfl|rfl<;>omega
     rcases (show bt s (p+j) < 128∨(128≤bt s (p+j)∧191 < bt s (p+j)) from by omega) with c1|⟨c1,c2⟩
     ·have c1':((bt s (p+j):Nat):Int) < 128:=by omega
      go_wp2
      (refine bodyPost_ret (v:=.agg #[.int .i32 65533,.int .i64 1,.bool true]) (by simp [results,Tryz.results80,go_sem]) rfl ⟨?_,aag _ _ _⟩;rw [aau HD.out,HD.out];rfl)
     ·have c1':128≤((bt s (p+j):Nat):Int):=by omega
      have c2':191 < ((bt s (p+j):Nat):Int):=by omega
      go_wp2
      (refine bodyPost_ret (v:=.agg #[.int .i32 65533,.int .i64 1,.bool true]) (by simp [results,Tryz.results80,go_sem]) rfl ⟨?_,aag _ _ _⟩;rw [aau HD.out,HD.out];rfl)
   ·obtain rfl:j=1:=by omega
    by_cases c1:128≤bt s (p+1)∧bt s (p+1)≤191
    ·obtain ⟨c1,c2⟩:=c1
     have c1':128≤((bt s (p+1):Nat):Int):=by omega
     have c2':((bt s (p+1):Nat):Int)≤191:=by omega
     have c3':128≤((bt s (p+1):Nat):Int):=by omega
     have c4':((bt s (p+1):Nat):Int)≤191:=by omega
     go_wp2
     go_roundw
     case rel =>
      refine ⟨trivial,2,by omega,by omega,rfl,?_,fun g=>⟨c1,c2⟩,fun g=>by omega,fun g=>by omega⟩
      rw [HN.out];go_num
     case measure=>simp [intOf]
    ·have HD:Hid (Utf8.decode s p=(65533,1)):=by
      apply dbad s p (by omega)
      ·intro k;obtain ⟨_,_,_,_,_⟩:=k;omega
      ·intro k;obtain ⟨_,_,_,_,_,_,_,_,_⟩:=k;omega
      ·intro k;obtain ⟨_,_,_,_,_,_,_,_,_,_,_⟩:=k;omega
     rcases (show bt s (p+1) < 128∨(128≤bt s (p+1)∧191 < bt s (p+1)) from by omega) with c1|⟨c1,c2⟩
     ·have c1':((bt s (p+1):Nat):Int) < 128:=by omega
      go_wp2
      (refine bodyPost_ret (v:=.agg #[.int .i32 65533,.int .i64 1,.bool true]) (by simp [results,Tryz.results80,go_sem]) rfl ⟨?_,aag _ _ _⟩;rw [aau HD.out,HD.out];rfl)
     ·have c1':128≤((bt s (p+1):Nat):Int):=by omega
      have c2':191 < ((bt s (p+1):Nat):Int):=by omega
      go_wp2
      (refine bodyPost_ret (v:=.agg #[.int .i32 65533,.int .i64 1,.bool true]) (by simp [results,Tryz.results80,go_sem]) rfl ⟨?_,aag _ _ _⟩;rw [aau HD.out,HD.out];rfl)
  ·obtain rfl:j=3:=by omega
   have HE:Hid (Utf8.decode s p=(ad7 s p 16 3,3)):=by
    show Utf8.decode s p=(ad7 s p 16 3,3)
    have l1:=G1.out (by omega)
    have l2:=G2.out (by omega)
    skip
    rw [aef,dec3 _ _ _ _ _ ⟨by omega,by omega,by omega,by omega,by omega,by omega,by omega,by omega,by omega⟩]
    simp only [ad7,Nat.add_zero]
    exact Prod.ext (by simp only [Nat.add_assoc,Nat.reduceAdd];omega) rfl
   go_wp2
   refine bodyPost_ret (v:=.agg #[.int .i32 (ad7 s p 16 3:Nat),.int .i64 3,.bool false]) (by simp [results,Tryz.results80,go_sem]) rfl ⟨?_,aag _ _ _⟩
   rw [ads (by rw [HE.out];simp),HE.out]
   rfl
theorem one3c (s:ByteArray) (p:Nat) (w:World) (hs:s.size≤16777216) (hp:p < s.size) (h1:237≤bt s p) (h2:bt s p≤237) (hn:p+3≤s.size):ab9 s p w:=by
 unfold ab9
 have hbt:=abu s p hp
 have hpn:(p:Int)+3≤s.size:=by omega
 have i0:128≤((bt s p:Nat):Int):=by omega
 have i1:194≤((bt s p:Nat):Int):=by omega
 have i2:223 < ((bt s p:Nat):Int):=by omega
 have i3:224≤((bt s p:Nat):Int):=by omega
 have i4:((bt s p:Nat):Int)≤239:=by omega
 have q224:(((bt s p:Nat):Int) == 224)=false:=by rw [beq_eq_false_iff_ne];omega
 have q237:(((bt s p:Nat):Int) == 237)=true:=by rw [beq_iff_eq];omega
 have hand:=ai5 (bt s p) (by omega) (by omega)
 go_enter Tryz.func80,Tryz.ntmps80
 go_wp2
 go_loopw [9,10] (fun r k w1=>w1=w.alloc (.cells #[.int .i32 0,.int .i64 0,.bool false] 130)∧∃ j:Nat,1≤j∧j≤3∧k=.int .i64 j∧r=.int .i32 (ad7 s p 16 j:Nat)∧(2≤j→128≤bt s (p+1)∧bt s (p+1)≤159)∧(3≤j→128≤bt s (p+2)∧bt s (p+2)≤191)∧(4≤j→128≤bt s (p+3)∧bt s (p+3)≤191)) (fun r k w1=>3 - (intOf k).toNat)
 case atStart=>exact ⟨rfl,1,by omega,by omega,rfl,by simp [ad7],fun h=>by omega,fun h=>by omega,fun h=>by omega⟩
 case round =>
  obtain ⟨rfl,j,hj1,hj2,rfl,rfl,g1,g2,g3⟩:=hrel
  have G1:=ke g1;clear g1
  have G2:=ke g2;clear g2
  have G3:=ke g3;clear g3
  clear hand hbt
  by_cases hlt:j < 3
  ·have hpj:p+j < s.size:=by omega
   have hbt:=abu s (p+j) hpj
   have hb256:=ac2 s (p+j)
   have hand:=aew (bt s (p+j)) (by omega) (by omega)
   have hacc:=ahp s p 16 (by omega) (by omega) j (by omega)
   have hj64:(j:Int) < 3:=by omega
   have HN:=ke (ae1 s p 16 j hj1)
   rcases Nat.lt_or_ge 1 j with hj|hj
   ·have hjb:((j:Int) == 1)=false:=by rw [beq_eq_false_iff_ne];omega
    by_cases c1:128≤bt s (p+j)∧bt s (p+j)≤191
    ·obtain ⟨c1,c2⟩:=c1
     have c1':128≤((bt s (p+j):Nat):Int):=by omega
     have c2':((bt s (p+j):Nat):Int)≤191:=by omega
     go_wp2
     go_roundw
     case rel =>
      refine ⟨trivial,j+1,by omega,by omega,by go_num,?_,fun g=>G1.out (by omega),fun g=>?_,fun g=>?_⟩
      ·rw [HN.out];go_num
      ·by_cases e:j=2
       ·subst e;exact ⟨c1,c2⟩
       ·exact G2.out (by omega)
      ·by_cases e:j=3
       ·subst e;exact ⟨c1,c2⟩
       ·exact G3.out (by omega)
     case measure=>simp [intOf];omega
    ·have HD:Hid (Utf8.decode s p=(65533,1)):=by
      apply dbad s p (by omega)
      ·intro k;have:=k.2.1;omega
      ·intro k;obtain ⟨_,_,_,_,_,_,_,_,_⟩:=k
       have e:j=2:=by omega
       subst e;omega
      ·intro k;obtain ⟨_,_,_,_,_,_,_,_,_,_,_⟩:=k
       have e:j=2∨j=3:=by omega
       rcases e with rfl|rfl<;>omega
     rcases (show bt s (p+j) < 128∨(128≤bt s (p+j)∧191 < bt s (p+j)) from by omega) with c1|⟨c1,c2⟩
     ·have c1':((bt s (p+j):Nat):Int) < 128:=by omega
      go_wp2
      (refine bodyPost_ret (v:=.agg #[.int .i32 65533,.int .i64 1,.bool true]) (by simp [results,Tryz.results80,go_sem]) rfl ⟨?_,aag _ _ _⟩;rw [aau HD.out,HD.out];rfl)
     ·have c1':128≤((bt s (p+j):Nat):Int):=by omega
      have c2':191 < ((bt s (p+j):Nat):Int):=by omega
      go_wp2
      (refine bodyPost_ret (v:=.agg #[.int .i32 65533,.int .i64 1,.bool true]) (by simp [results,Tryz.results80,go_sem]) rfl ⟨?_,aag _ _ _⟩;rw [aau HD.out,HD.out];rfl)
   ·obtain rfl:j=1:=by omega
    by_cases c1:128≤bt s (p+1)∧bt s (p+1)≤159
    ·obtain ⟨c1,c2⟩:=c1
     have c1':128≤((bt s (p+1):Nat):Int):=by omega
     have c2':((bt s (p+1):Nat):Int)≤159:=by omega
     have c3':128≤((bt s (p+1):Nat):Int):=by omega
     have c4':((bt s (p+1):Nat):Int)≤191:=by omega
     go_wp2
     go_roundw
     case rel =>
      refine ⟨trivial,2,by omega,by omega,rfl,?_,fun g=>⟨c1,c2⟩,fun g=>by omega,fun g=>by omega⟩
      rw [HN.out];go_num
     case measure=>simp [intOf]
    ·have HD:Hid (Utf8.decode s p=(65533,1)):=by
      apply dbad s p (by omega)
      ·intro k;obtain ⟨_,_,_,_,_⟩:=k;omega
      ·intro k;obtain ⟨_,_,_,_,_,_,_,_,_⟩:=k;omega
      ·intro k;obtain ⟨_,_,_,_,_,_,_,_,_,_,_⟩:=k;omega
     rcases (show bt s (p+1) < 128∨(128≤bt s (p+1)∧159 < bt s (p+1)) from by omega) with c1|⟨c1,c2⟩
     ·have c1':((bt s (p+1):Nat):Int) < 128:=by omega
      go_wp2
      (refine bodyPost_ret (v:=.agg #[.int .i32 65533,.int .i64 1,.bool true]) (by simp [results,Tryz.results80,go_sem]) rfl ⟨?_,aag _ _ _⟩;rw [aau HD.out,HD.out];rfl)
     ·have c1':128≤((bt s (p+1):Nat):Int):=by omega
      have c2':159 < ((bt s (p+1):Nat):Int):=by omega
      go_wp2
      (refine bodyPost_ret (v:=.agg #[.int .i32 65533,.int .i64 1,.bool true]) (by simp [results,Tryz.results80,go_sem]) rfl ⟨?_,aag _ _ _⟩;rw [aau HD.out,HD.out];rfl)
  ·obtain rfl:j=3:=by omega
   have HE:Hid (Utf8.decode s p=(ad7 s p 16 3,3)):=by
    show Utf8.decode s p=(ad7 s p 16 3,3)
    have l1:=G1.out (by omega)
    have l2:=G2.out (by omega)
    skip
    rw [aef,dec3 _ _ _ _ _ ⟨by omega,by omega,by omega,by omega,by omega,by omega,by omega,by omega,by omega⟩]
    simp only [ad7,Nat.add_zero]
    exact Prod.ext (by simp only [Nat.add_assoc,Nat.reduceAdd];omega) rfl
   go_wp2
   refine bodyPost_ret (v:=.agg #[.int .i32 (ad7 s p 16 3:Nat),.int .i64 3,.bool false]) (by simp [results,Tryz.results80,go_sem]) rfl ⟨?_,aag _ _ _⟩
   rw [ads (by rw [HE.out];simp),HE.out]
   rfl
end
section
open Go.RowKit
theorem one4b (s:ByteArray) (p:Nat) (w:World) (hs:s.size≤16777216) (hp:p < s.size) (h1:241≤bt s p) (h2:bt s p≤243) (hn:p+4≤s.size):ab9 s p w:=by
 unfold ab9
 have hbt:=abu s p hp
 have hpn:(p:Int)+4≤s.size:=by omega
 have i0:128≤((bt s p:Nat):Int):=by omega
 have i1:194≤((bt s p:Nat):Int):=by omega
 have i2:223 < ((bt s p:Nat):Int):=by omega
 have i3:224≤((bt s p:Nat):Int):=by omega
 have i4:239 < ((bt s p:Nat):Int):=by omega
 have i5:240≤((bt s p:Nat):Int):=by omega
 have i6:((bt s p:Nat):Int)≤244:=by omega
 have q240:(((bt s p:Nat):Int) == 240)=false:=by rw [beq_eq_false_iff_ne];omega
 have q244:(((bt s p:Nat):Int) == 244)=false:=by rw [beq_eq_false_iff_ne];omega
 have hand:=i32_and7 (bt s p) (by omega) (by omega)
 go_enter Tryz.func80,Tryz.ntmps80
 go_wp2
 go_loopw [9,10] (fun r k w1=>w1=w.alloc (.cells #[.int .i32 0,.int .i64 0,.bool false] 130)∧∃ j:Nat,1≤j∧j≤4∧k=.int .i64 j∧r=.int .i32 (ad7 s p 8 j:Nat)∧(2≤j→128≤bt s (p+1)∧bt s (p+1)≤191)∧(3≤j→128≤bt s (p+2)∧bt s (p+2)≤191)∧(4≤j→128≤bt s (p+3)∧bt s (p+3)≤191)) (fun r k w1=>4 - (intOf k).toNat)
 case atStart=>exact ⟨rfl,1,by omega,by omega,rfl,by simp [ad7],fun h=>by omega,fun h=>by omega,fun h=>by omega⟩
 case round =>
  obtain ⟨rfl,j,hj1,hj2,rfl,rfl,g1,g2,g3⟩:=hrel
  have G1:=ke g1;clear g1
  have G2:=ke g2;clear g2
  have G3:=ke g3;clear g3
  clear hand hbt
  by_cases hlt:j < 4
  ·have hpj:p+j < s.size:=by omega
   have hbt:=abu s (p+j) hpj
   have hb256:=ac2 s (p+j)
   have hand:=aew (bt s (p+j)) (by omega) (by omega)
   have hacc:=ahp s p 8 (by omega) (by omega) j (by omega)
   have hj64:(j:Int) < 4:=by omega
   have HN:=ke (ae1 s p 8 j hj1)
   rcases Nat.lt_or_ge 1 j with hj|hj
   ·have hjb:((j:Int) == 1)=false:=by rw [beq_eq_false_iff_ne];omega
    by_cases c1:128≤bt s (p+j)∧bt s (p+j)≤191
    ·obtain ⟨c1,c2⟩:=c1
     have c1':128≤((bt s (p+j):Nat):Int):=by omega
     have c2':((bt s (p+j):Nat):Int)≤191:=by omega
     go_wp2
     go_roundw
     case rel =>
      refine ⟨trivial,j+1,by omega,by omega,by go_num,?_,fun g=>G1.out (by omega),fun g=>?_,fun g=>?_⟩
      ·rw [HN.out];go_num
      ·by_cases e:j=2
       ·subst e;exact ⟨c1,c2⟩
       ·exact G2.out (by omega)
      ·by_cases e:j=3
       ·subst e;exact ⟨c1,c2⟩
       ·exact G3.out (by omega)
     case measure=>simp [intOf];omega
    ·have HD:Hid (Utf8.decode s p=(65533,1)):=by
      apply dbad s p (by omega)
      ·intro k;have:=k.2.1;omega
      ·intro k;obtain ⟨_,_,_,_,_,_,_,_,_⟩:=k
       have e:j=2:=by omega
       subst e;omega
      ·intro k;obtain ⟨_,_,_,_,_,_,_,_,_,_,_⟩:=k
       have e:j=2∨j=3:=by omega
       rcases e with rfl|rfl<;>omega
     rcases (show bt s (p+j) < 128∨(128≤bt s (p+j)∧191 < bt s (p+j)) from by omega) with c1|⟨c1,c2⟩
     ·have c1':((bt s (p+j):Nat):Int) < 128:=by omega
      go_wp2
      (refine bodyPost_ret (v:=.agg #[.int .i32 65533,.int .i64 1,.bool true]) (by simp [results,Tryz.results80,go_sem]) rfl ⟨?_,aag _ _ _⟩;rw [aau HD.out,HD.out];rfl)
     ·have c1':128≤((bt s (p+j):Nat):Int):=by omega
      have c2':191 < ((bt s (p+j):Nat):Int):=by omega
      go_wp2
      (refine bodyPost_ret (v:=.agg #[.int .i32 65533,.int .i64 1,.bool true]) (by simp [results,Tryz.results80,go_sem]) rfl ⟨?_,aag _ _ _⟩;rw [aau HD.out,HD.out];rfl)
   ·obtain rfl:j=1:=by omega
    by_cases c1:128≤bt s (p+1)∧bt s (p+1)≤191
    ·obtain ⟨c1,c2⟩:=c1
     have c1':128≤((bt s (p+1):Nat):Int):=by omega
     have c2':((bt s (p+1):Nat):Int)≤191:=by omega
     have c3':128≤((bt s (p+1):Nat):Int):=by omega
     have c4':((bt s (p+1):Nat):Int)≤191:=by omega
     go_wp2
     go_roundw
     case rel =>
      refine ⟨trivial,2,by omega,by omega,rfl,?_,fun g=>⟨c1,c2⟩,fun g=>by omega,fun g=>by omega⟩
      rw [HN.out];go_num
     case measure=>simp [intOf]
    ·have HD:Hid (Utf8.decode s p=(65533,1)):=by
      apply dbad s p (by omega)
      ·intro k;obtain ⟨_,_,_,_,_⟩:=k;omega
      ·intro k;obtain ⟨_,_,_,_,_,_,_,_,_⟩:=k;omega
      ·intro k;obtain ⟨_,_,_,_,_,_,_,_,_,_,_⟩:=k;omega
     rcases (show bt s (p+1) < 128∨(128≤bt s (p+1)∧191 < bt s (p+1)) from by omega) with c1|⟨c1,c2⟩
     ·have c1':((bt s (p+1):Nat):Int) < 128:=by omega
      go_wp2
      (refine bodyPost_ret (v:=.agg #[.int .i32 65533,.int .i64 1,.bool true]) (by simp [results,Tryz.results80,go_sem]) rfl ⟨?_,aag _ _ _⟩;rw [aau HD.out,HD.out];rfl)
     ·have c1':128≤((bt s (p+1):Nat):Int):=by omega
      have c2':191 < ((bt s (p+1):Nat):Int):=by omega
      go_wp2
      (refine bodyPost_ret (v:=.agg #[.int .i32 65533,.int .i64 1,.bool true]) (by simp [results,Tryz.results80,go_sem]) rfl ⟨?_,aag _ _ _⟩;rw [aau HD.out,HD.out];rfl)
  ·obtain rfl:j=4:=by omega
   have HE:Hid (Utf8.decode s p=(ad7 s p 8 4,4)):=by
    show Utf8.decode s p=(ad7 s p 8 4,4)
    have l1:=G1.out (by omega)
    have l2:=G2.out (by omega)
    have l3:=G3.out (by omega)
    rw [aef,dec4 _ _ _ _ _ ⟨by omega,by omega,by omega,by omega,by omega,by omega,by omega,by omega,by omega,by omega,by omega⟩]
    simp only [ad7,Nat.add_zero]
    exact Prod.ext (by simp only [Nat.add_assoc,Nat.reduceAdd];omega) rfl
   go_wp2
   refine bodyPost_ret (v:=.agg #[.int .i32 (ad7 s p 8 4:Nat),.int .i64 4,.bool false]) (by simp [results,Tryz.results80,go_sem]) rfl ⟨?_,aag _ _ _⟩
   rw [ads (by rw [HE.out];simp),HE.out]
   rfl
theorem one4c (s:ByteArray) (p:Nat) (w:World) (hs:s.size≤16777216) (hp:p < s.size) (h1:244≤bt s p) (h2:bt s p≤244) (hn:p+4≤s.size):ab9 s p w:=by
 unfold ab9
 have hbt:=abu s p hp
 have hpn:(p:Int)+4≤s.size:=by omega
 have i0:128≤((bt s p:Nat):Int):=by omega
 have i1:194≤((bt s p:Nat):Int):=by omega
 have i2:223 < ((bt s p:Nat):Int):=by omega
 have i3:224≤((bt s p:Nat):Int):=by omega
 have i4:239 < ((bt s p:Nat):Int):=by omega
 have i5:240≤((bt s p:Nat):Int):=by omega
 have i6:((bt s p:Nat):Int)≤244:=by omega
 have q240:(((bt s p:Nat):Int) == 240)=false:=by rw [beq_eq_false_iff_ne];omega
 have q244:(((bt s p:Nat):Int) == 244)=true:=by rw [beq_iff_eq];omega
 have hand:=i32_and7 (bt s p) (by omega) (by omega)
 go_enter Tryz.func80,Tryz.ntmps80
 go_wp2
 go_loopw [9,10] (fun r k w1=>w1=w.alloc (.cells #[.int .i32 0,.int .i64 0,.bool false] 130)∧∃ j:Nat,1≤j∧j≤4∧k=.int .i64 j∧r=.int .i32 (ad7 s p 8 j:Nat)∧(2≤j→128≤bt s (p+1)∧bt s (p+1)≤143)∧(3≤j→128≤bt s (p+2)∧bt s (p+2)≤191)∧(4≤j→128≤bt s (p+3)∧bt s (p+3)≤191)) (fun r k w1=>4 - (intOf k).toNat)
 case atStart=>exact ⟨rfl,1,by omega,by omega,rfl,by simp [ad7],fun h=>by omega,fun h=>by omega,fun h=>by omega⟩
 case round =>
  obtain ⟨rfl,j,hj1,hj2,rfl,rfl,g1,g2,g3⟩:=hrel
  have G1:=ke g1;clear g1
  have G2:=ke g2;clear g2
  have G3:=ke g3;clear g3
  clear hand hbt
  by_cases hlt:j < 4
  ·have hpj:p+j < s.size:=by omega
   have hbt:=abu s (p+j) hpj
   have hb256:=ac2 s (p+j)
   have hand:=aew (bt s (p+j)) (by omega) (by omega)
   have hacc:=ahp s p 8 (by omega) (by omega) j (by omega)
   have hj64:(j:Int) < 4:=by omega
   have HN:=ke (ae1 s p 8 j hj1)
   rcases Nat.lt_or_ge 1 j with hj|hj
   ·have hjb:((j:Int) == 1)=false:=by rw [beq_eq_false_iff_ne];omega
    by_cases c1:128≤bt s (p+j)∧bt s (p+j)≤191
    ·obtain ⟨c1,c2⟩:=c1
     have c1':128≤((bt s (p+j):Nat):Int):=by omega
     have c2':((bt s (p+j):Nat):Int)≤191:=by omega
     go_wp2
     go_roundw
     case rel =>
      refine ⟨trivial,j+1,by omega,by omega,by go_num,?_,fun g=>G1.out (by omega),fun g=>?_,fun g=>?_⟩
      ·rw [HN.out];go_num
      ·by_cases e:j=2
       ·subst e;exact ⟨c1,c2⟩
       ·exact G2.out (by omega)
      ·by_cases e:j=3
       ·subst e;exact ⟨c1,c2⟩
       ·exact G3.out (by omega)
     case measure=>simp [intOf];omega
    ·have HD:Hid (Utf8.decode s p=(65533,1)):=by
      apply dbad s p (by omega)
      ·intro k;have:=k.2.1;omega
      ·intro k;obtain ⟨_,_,_,_,_,_,_,_,_⟩:=k
       have e:j=2:=by omega
       subst e;omega
      ·intro k;obtain ⟨_,_,_,_,_,_,_,_,_,_,_⟩:=k
       have e:j=2∨j=3:=by omega
       rcases e with rfl|rfl<;>omega
     rcases (show bt s (p+j) < 128∨(128≤bt s (p+j)∧191 < bt s (p+j)) from by omega) with c1|⟨c1,c2⟩
     ·have c1':((bt s (p+j):Nat):Int) < 128:=by omega
      go_wp2
      (refine bodyPost_ret (v:=.agg #[.int .i32 65533,.int .i64 1,.bool true]) (by simp [results,Tryz.results80,go_sem]) rfl ⟨?_,aag _ _ _⟩;rw [aau HD.out,HD.out];rfl)
     ·have c1':128≤((bt s (p+j):Nat):Int):=by omega
      have c2':191 < ((bt s (p+j):Nat):Int):=by omega
      go_wp2
      (refine bodyPost_ret (v:=.agg #[.int .i32 65533,.int .i64 1,.bool true]) (by simp [results,Tryz.results80,go_sem]) rfl ⟨?_,aag _ _ _⟩;rw [aau HD.out,HD.out];rfl)
   ·obtain rfl:j=1:=by omega
    by_cases c1:128≤bt s (p+1)∧bt s (p+1)≤143
    ·obtain ⟨c1,c2⟩:=c1
     have c1':128≤((bt s (p+1):Nat):Int):=by omega
     have c2':((bt s (p+1):Nat):Int)≤143:=by omega
     have c3':128≤((bt s (p+1):Nat):Int):=by omega
     have c4':((bt s (p+1):Nat):Int)≤191:=by omega
     go_wp2
     go_roundw
     case rel =>
      refine ⟨trivial,2,by omega,by omega,rfl,?_,fun g=>⟨c1,c2⟩,fun g=>by omega,fun g=>by omega⟩
      rw [HN.out];go_num
     case measure=>simp [intOf]
    ·have HD:Hid (Utf8.decode s p=(65533,1)):=by
      apply dbad s p (by omega)
      ·intro k;obtain ⟨_,_,_,_,_⟩:=k;omega
      ·intro k;obtain ⟨_,_,_,_,_,_,_,_,_⟩:=k;omega
      ·intro k;obtain ⟨_,_,_,_,_,_,_,_,_,_,_⟩:=k;omega
     rcases (show bt s (p+1) < 128∨(128≤bt s (p+1)∧143 < bt s (p+1)) from by omega) with c1|⟨c1,c2⟩
     ·have c1':((bt s (p+1):Nat):Int) < 128:=by omega
      go_wp2
      (refine bodyPost_ret (v:=.agg #[.int .i32 65533,.int .i64 1,.bool true]) (by simp [results,Tryz.results80,go_sem]) rfl ⟨?_,aag _ _ _⟩;rw [aau HD.out,HD.out];rfl)
     ·have c1':128≤((bt s (p+1):Nat):Int):=by omega
      have c2':143 < ((bt s (p+1):Nat):Int):=by omega
      go_wp2
      (refine bodyPost_ret (v:=.agg #[.int .i32 65533,.int .i64 1,.bool true]) (by simp [results,Tryz.results80,go_sem]) rfl ⟨?_,aag _ _ _⟩;rw [aau HD.out,HD.out];rfl)
  ·obtain rfl:j=4:=by omega
   have HE:Hid (Utf8.decode s p=(ad7 s p 8 4,4)):=by
    show Utf8.decode s p=(ad7 s p 8 4,4)
    have l1:=G1.out (by omega)
    have l2:=G2.out (by omega)
    have l3:=G3.out (by omega)
    rw [aef,dec4 _ _ _ _ _ ⟨by omega,by omega,by omega,by omega,by omega,by omega,by omega,by omega,by omega,by omega,by omega⟩]
    simp only [ad7,Nat.add_zero]
    exact Prod.ext (by simp only [Nat.add_assoc,Nat.reduceAdd];omega) rfl
   go_wp2
   refine bodyPost_ret (v:=.agg #[.int .i32 (ad7 s p 8 4:Nat),.int .i64 4,.bool false]) (by simp [results,Tryz.results80,go_sem]) rfl ⟨?_,aag _ _ _⟩
   rw [ads (by rw [HE.out];simp),HE.out]
   rfl
end
end Go.Proofs.YtddnnohfbagbnaaGreatDoor
