/- Parts of the proof: Par, ParB, RdA, RdB, RdC, RdD, Ex, ExA, ExB, BxN, ExC, ExF, ExD, ExE, RdP. -/
import Derived.Test.YtddnnohfbagbnaaGreatDoorHi
import Derived.Test.YtddnnohfbagbnaaGreatDoorP0
import Derived.BigCall
import Derived.Deep.RegionWith
import Derived.Deep.RegionHeld3
import Derived.Test.YtddnnohfbagbnaaGreatDoorP1
import Derived.Lib.ParseIntB
import Derived.Test.YtddnnohfbagbnaaGreatDoorP11
import Derived.Test.YtddnnohfbagbnaaGreatDoorP5
import Derived.Deep.QuietTactic
import Derived.BigQuiet
set_option maxHeartbeats 4000000
set_option maxRecDepth 100000
namespace Go.Proofs.YtddnnohfbagbnaaGreatDoor
set_option linter.unusedSimpArgs false
set_option linter.unusedVariables false
section
open Go.RowKit
inductive Pr where
 | fx (t:ByteArray)|nm (t:ByteArray)|cl (t:ByteArray)|nu (t:ByteArray)|qu (t:ByteArray)
def Pr.V:Pr→Value
 | .fx t=>.iface 120 (.string t)
 | .nm t=>.iface 156 (.string t)
 | .cl t=>.iface 157 (.string t)
 | .nu t=>.iface 118 (.string t)
 | .qu t=>.iface 119 (.string t)
def Pr.text:Pr→ByteArray
 | .fx t|.nm t|.cl t|.nu t|.qu t=>t
abbrev Pl:=Pr×Int
structure RS where
 ws:List Pl
 sz:Int
 op:Int
 wc:Int
 wa:Int
 lc:Int
 la:Int
def atW (sz:Int):List Pl→Int
 | []=>sz
 | x :: _=>x.2
def RS.at (r:RS):Int:=atW r.sz r.ws
def aar (l:List Pl) (n:Nat):Value:=match l[n]? with|some x=>x.1.V|none=>.nilIface
def aik (s:ByteArray):Option Pl→Bool
 | some (.fx t,_)=>t.toList == s.toList
 | _=>false
def RS.sees (r:RS) (n:Nat) (s:ByteArray):Bool:=aik s r.ws[n]?
def RS.skip (r:RS):RS:={ r with ws:=r.ws.drop 1 }
def RS.fail (r:RS) (c:Int):RS:=if r.wc=0 then { r with ws:=[],wc:=c,wa:=r.at } else { r with ws:=[] }
def RS.take (r:RS) (s:ByteArray):RS:=if r.sees 0 s then r.skip else r
def RS.need (r:RS) (s:ByteArray):RS:=if r.sees 0 s then r.skip else r.fail 3
def RS.fin (r:RS):RS:=if r.ws.isEmpty then r else r.fail 3
def RS.until (r:RS) (s:ByteArray):Bool:=!r.ws.isEmpty && !r.sees 0 s
def Ww (w:World) (v:Value) (l:List Pl):Prop :=
 ∃ A cap,v=.slice A l.length cap∧(l.length≤1000000∧l.length≤cap∧cap≤maxLen)∧(∀ x ∈ l,x.1.text.size≤1000000)∧(0 < l.length→∃ b o,A=some ⟨b,o,none⟩∧∀ i x,l[i]?=some x→w.cell? ⟨b,o+i * 2,none⟩=some x.1.V∧w.cell? ⟨b,o+i * 2+1,none⟩=some (.int .i64 x.2))
theorem Ww.nil (w:World):Ww w (.slice none 0 0) []:=⟨none,0,rfl,by unfold maxLen;simp,by simp,fun h=>by simp at h⟩
theorem Ww.empt (w:World) (A:Option Addr) (c:Nat) (hc:c≤maxLen):Ww w (.slice A 0 c) []:=⟨A,c,rfl,by simp;omega,by simp,fun h=>by simp at h⟩
theorem Ww.form {w:World} {v:Value} {l:List Pl} (h:Ww w v l):∃ A cap,v=.slice A l.length cap∧l.length≤cap∧cap≤maxLen∧l.length≤1000000:=by
 obtain ⟨A,cap,hv,hm,_⟩:=h;exact ⟨A,cap,hv,hm.2.1,hm.2.2,hm.1⟩
theorem Ww.get {w:World} {A:Option Addr} {n cap:Nat} {l:List Pl} (h:Ww w (.slice A n cap) l) {k:Nat} (hk:k < n):∃ b o x,A=some ⟨b,o,none⟩∧l[k]?=some x∧w.cell? ⟨b,o+k * 2,none⟩=some x.1.V∧w.cell? ⟨b,o+k * 2+1,none⟩=some (.int .i64 x.2):=by
 obtain ⟨A',cap',hv,_,_,hc⟩:=h
 injection hv with h1 h2 h3
 obtain ⟨b,o,hA,hcell⟩:=hc (by omega)
 have hl:k < l.length:=by omega
 exact ⟨b,o,l[k],h1.trans hA,List.getElem?_eq_getElem hl,hcell k _ (List.getElem?_eq_getElem hl)⟩
theorem Ww.tail {w:World} {b o n cap:Nat} {x:Pl} {l:List Pl} (h:Ww w (.slice (some ⟨b,o,none⟩) n cap) (x :: l)):Ww w (.slice (some ⟨b,o+2,none⟩) (n - 1) (cap - 1)) l:=by
 obtain ⟨A',cap',hv,hm,ht,hc⟩:=h
 injection hv with h1 h2 h3
 obtain ⟨b',o',hA,hcell⟩:=hc (by simp)
 rw [← h1] at hA
 injection hA with hA
 injection hA with hb ho
 subst hb ho
 simp only [List.length_cons] at h2 hm
 refine ⟨some ⟨b,o+2,none⟩,cap - 1,by rw [h2];simp,by omega,fun y hy=>ht y (by simp [hy]),fun hn=>⟨b,o+2,rfl,fun i y hy=>?_⟩⟩
 have:=hcell (i+1) y (by simpa using hy)
 have e1:o+(i+1) * 2=o+2+i * 2:=by omega
 rw [e1] at this
 exact this
def KB (c:Nat) (W0 w:World):Prop:=W0.grownBy w (some c)
theorem KB.size {c:Nat} {W0 w:World} (h:KB c W0 w):W0.heap.size≤w.heap.size:=World.grownBy.size h
theorem KB.drew {c:Nat} {W0 w:World} (h:KB c W0 w):KB c W0 w.drew:=⟨h.os,h.tape,h.output,h.size,h.block⟩
theorem KB.trans {c:Nat} {W0 w w':World} (h:KB c W0 w) (hb:Below W0.heap.size w w'):KB c W0 w' :=
 ⟨hb.os.trans (World.grownBy.os h),hb.tape.trans (World.grownBy.tape h),hb.output.trans (World.grownBy.output h),Nat.le_trans h.size hb.size,fun k hk hne=>(hb.block k hk).trans (World.grownBy.block h k hk hne)⟩
theorem KB.grown {c:Nat} {W0 w w':World} {o:Option Nat} (h:KB c W0 w) (hg:w.grownBy w' o) (hs:W0.heap.size≤w.heap.size) (ho:∀ k,o=some k→W0.heap.size≤k):KB c W0 w' :=
 ⟨hg.os.trans (World.grownBy.os h),hg.tape.trans (World.grownBy.tape h),hg.output.trans (World.grownBy.output h),Nat.le_trans h.size hg.size,fun k hk hne=>(hg.block k (Nat.lt_of_lt_of_le hk hs) (fun e=>by have:=ho k e.symm;omega)).trans (World.grownBy.block h k hk hne)⟩
def NB (W0:World) (c:Nat):Prop:=∃ (A:Option Addr) (n cp:Nat) (x1 x2 x3 x4 x5 x6:Int),Bx W0 c #[.slice A n cp,.int .i64 x1,.int .i64 x2,.int .i64 x3,.int .i64 x4,.int .i64 x5,.int .i64 x6] 56
theorem NB.no {W0:World} {c:Nat} (h:NB W0 c) {j:Nat} {T:TypeId} {u:Value}:W0.cell? ⟨c,j,none⟩≠some (.iface T u):=by
 obtain ⟨A,n,cp,x1,x2,x3,x4,x5,x6,hx⟩:=h
 intro e
 rw [hx.cell] at e
 rcases j with _|_|_|_|_|_|_|j<;>simp at e
theorem NB.nonil {W0:World} {c:Nat} (h:NB W0 c) {j:Nat}:W0.cell? ⟨c,j,none⟩≠some .nilIface:=by
 obtain ⟨A,n,cp,x1,x2,x3,x4,x5,x6,hx⟩:=h
 intro e
 rw [hx.cell] at e
 rcases j with _|_|_|_|_|_|_|j<;>simp at e
def Rd (W0:World) (c:Nat) (s:RS) (w:World):Prop :=
 KB c W0 w∧NB W0 c∧∃ v,Ww W0 v s.ws∧Bx w c #[v,.int .i64 s.sz,.int .i64 s.op,.int .i64 s.wc,.int .i64 s.wa,.int .i64 s.lc,.int .i64 s.la] 56
def Mv (W0:World) (c:Nat) (s:RS) (w w':World):Prop:=w.grownBy w' (some c)∧Rd W0 c s w'
theorem Rd.drew {W0 w:World} {c:Nat} {s:RS} (h:Rd W0 c s w):Rd W0 c s w.drew:=⟨h.1.drew,h.2.1,h.2.2⟩
theorem Mv.refl {W0 w:World} {c:Nat} {s:RS} (h:Rd W0 c s w):Mv W0 c s w w:=⟨⟨rfl,rfl,rfl,Nat.le_refl _,fun _ _ _=>rfl⟩,h⟩
theorem Mv.trans {W0 a b d:World} {c:Nat} {s t:RS} (h:Mv W0 c s a b) (k:Mv W0 c t b d):Mv W0 c t a d:=⟨h.1.trans k.1,k.2⟩
theorem KB.setCell {c o:Nat} {W0 w:World} (h:KB c W0 w) (_:NB W0 c) (u:Value):KB c W0 (w.setCell ⟨c,o,none⟩ u) :=
 World.grownBy.trans h ⟨rfl,rfl,rfl,by simp,fun k hk hne=>Below.heap_setCell w _ u k (fun e=>hne (by rw [e]))⟩
theorem Rd.le {W0 w:World} {c:Nat} {s:RS} (h:Rd W0 c s w):W0.heap.size≤w.heap.size:=h.1.size
theorem Rd.lies {W0 w:World} {c:Nat} {s:RS} (h:Rd W0 c s w) {v:Value} {l:List Pl} (hw:Ww W0 v l):Ww w v l:=by
 obtain ⟨A,cap,hv,hm,ht,hc⟩:=hw
 refine ⟨A,cap,hv,hm,ht,fun hn=>?_⟩
 obtain ⟨b,o,hA,hcell⟩:=hc hn
 obtain ⟨x,l',rfl⟩:=List.exists_cons_of_ne_nil (List.ne_nil_of_length_pos hn)
 have hbc:b≠c:=by
  rintro rfl
  have h0:=(hcell 0 x rfl).1
  cases hx:x.1<;>rw [hx] at h0<;>exact h.2.1.no h0
 have key:∀ j u,W0.cell? ⟨b,j,none⟩=some u→w.cell? ⟨b,j,none⟩=some u:=fun j u hu =>
  (World.cell?_of_block (a:=⟨b,j,none⟩) (World.grownBy.block h.1 b (World.block_lt_of_cell? W0 (a:=⟨b,j,none⟩) hu) (by simpa using hbc))).trans hu
 exact ⟨b,o,hA,fun i y hy=>⟨key _ _ (hcell i y hy).1,key _ _ (hcell i y hy).2⟩⟩
theorem adc (w:World) (c o:Nat) (u:Value):w.grownBy (w.setCell ⟨c,o,none⟩ u) (some c) :=
 ⟨rfl,rfl,rfl,by simp,fun k hk hne=>Below.heap_setCell w _ u k (fun e=>hne (by rw [e]))⟩
theorem ae8 (w:World) (x y:Int):Calls Tryz.prog 16 #[.agg #[.int .i64 x,.int .i64 y]] w fun e w'=>e=.returned (.bool (x != 0))∧w'=w.alloc (.cells #[.int .i64 x,.int .i64 y] 52):=by
 go_enter Tryz.func16,Tryz.ntmps16
 go_wp2
 go_ret
 exact ⟨rfl,rfl⟩
end
section
open Go.RowKit
@[go_sem] theorem is_fx_fx (v:Value) (w:World):(Instr.typeAssert (.iface 120 v) 84 120 true).run Tryz.prog w=.ok (.tuple #[v,.bool true]) w:=by kernel_rfl
@[go_sem] theorem is_fx_nm (v:Value) (w:World):(Instr.typeAssert (.iface 120 v) 84 156 true).run Tryz.prog w=.ok (.tuple #[.string ⟨#[]⟩,.bool false]) w:=by kernel_rfl
@[go_sem] theorem is_fx_cl (v:Value) (w:World):(Instr.typeAssert (.iface 120 v) 84 157 true).run Tryz.prog w=.ok (.tuple #[.string ⟨#[]⟩,.bool false]) w:=by kernel_rfl
@[go_sem] theorem is_fx_nu (v:Value) (w:World):(Instr.typeAssert (.iface 120 v) 84 118 true).run Tryz.prog w=.ok (.tuple #[.string ⟨#[]⟩,.bool false]) w:=by kernel_rfl
@[go_sem] theorem is_fx_qu (v:Value) (w:World):(Instr.typeAssert (.iface 120 v) 84 119 true).run Tryz.prog w=.ok (.tuple #[.string ⟨#[]⟩,.bool false]) w:=by kernel_rfl
@[go_sem] theorem is_nm_fx (v:Value) (w:World):(Instr.typeAssert (.iface 156 v) 84 120 true).run Tryz.prog w=.ok (.tuple #[.string ⟨#[]⟩,.bool false]) w:=by kernel_rfl
@[go_sem] theorem is_nm_nm (v:Value) (w:World):(Instr.typeAssert (.iface 156 v) 84 156 true).run Tryz.prog w=.ok (.tuple #[v,.bool true]) w:=by kernel_rfl
@[go_sem] theorem is_nm_cl (v:Value) (w:World):(Instr.typeAssert (.iface 156 v) 84 157 true).run Tryz.prog w=.ok (.tuple #[.string ⟨#[]⟩,.bool false]) w:=by kernel_rfl
@[go_sem] theorem is_nm_nu (v:Value) (w:World):(Instr.typeAssert (.iface 156 v) 84 118 true).run Tryz.prog w=.ok (.tuple #[.string ⟨#[]⟩,.bool false]) w:=by kernel_rfl
@[go_sem] theorem is_nm_qu (v:Value) (w:World):(Instr.typeAssert (.iface 156 v) 84 119 true).run Tryz.prog w=.ok (.tuple #[.string ⟨#[]⟩,.bool false]) w:=by kernel_rfl
@[go_sem] theorem is_cl_fx (v:Value) (w:World):(Instr.typeAssert (.iface 157 v) 84 120 true).run Tryz.prog w=.ok (.tuple #[.string ⟨#[]⟩,.bool false]) w:=by kernel_rfl
@[go_sem] theorem is_cl_nm (v:Value) (w:World):(Instr.typeAssert (.iface 157 v) 84 156 true).run Tryz.prog w=.ok (.tuple #[.string ⟨#[]⟩,.bool false]) w:=by kernel_rfl
@[go_sem] theorem is_cl_cl (v:Value) (w:World):(Instr.typeAssert (.iface 157 v) 84 157 true).run Tryz.prog w=.ok (.tuple #[v,.bool true]) w:=by kernel_rfl
@[go_sem] theorem is_cl_nu (v:Value) (w:World):(Instr.typeAssert (.iface 157 v) 84 118 true).run Tryz.prog w=.ok (.tuple #[.string ⟨#[]⟩,.bool false]) w:=by kernel_rfl
@[go_sem] theorem is_cl_qu (v:Value) (w:World):(Instr.typeAssert (.iface 157 v) 84 119 true).run Tryz.prog w=.ok (.tuple #[.string ⟨#[]⟩,.bool false]) w:=by kernel_rfl
@[go_sem] theorem is_nu_fx (v:Value) (w:World):(Instr.typeAssert (.iface 118 v) 84 120 true).run Tryz.prog w=.ok (.tuple #[.string ⟨#[]⟩,.bool false]) w:=by kernel_rfl
@[go_sem] theorem is_nu_nm (v:Value) (w:World):(Instr.typeAssert (.iface 118 v) 84 156 true).run Tryz.prog w=.ok (.tuple #[.string ⟨#[]⟩,.bool false]) w:=by kernel_rfl
@[go_sem] theorem is_nu_cl (v:Value) (w:World):(Instr.typeAssert (.iface 118 v) 84 157 true).run Tryz.prog w=.ok (.tuple #[.string ⟨#[]⟩,.bool false]) w:=by kernel_rfl
@[go_sem] theorem is_nu_nu (v:Value) (w:World):(Instr.typeAssert (.iface 118 v) 84 118 true).run Tryz.prog w=.ok (.tuple #[v,.bool true]) w:=by kernel_rfl
@[go_sem] theorem is_nu_qu (v:Value) (w:World):(Instr.typeAssert (.iface 118 v) 84 119 true).run Tryz.prog w=.ok (.tuple #[.string ⟨#[]⟩,.bool false]) w:=by kernel_rfl
@[go_sem] theorem is_qu_fx (v:Value) (w:World):(Instr.typeAssert (.iface 119 v) 84 120 true).run Tryz.prog w=.ok (.tuple #[.string ⟨#[]⟩,.bool false]) w:=by kernel_rfl
@[go_sem] theorem is_qu_nm (v:Value) (w:World):(Instr.typeAssert (.iface 119 v) 84 156 true).run Tryz.prog w=.ok (.tuple #[.string ⟨#[]⟩,.bool false]) w:=by kernel_rfl
@[go_sem] theorem is_qu_cl (v:Value) (w:World):(Instr.typeAssert (.iface 119 v) 84 157 true).run Tryz.prog w=.ok (.tuple #[.string ⟨#[]⟩,.bool false]) w:=by kernel_rfl
@[go_sem] theorem is_qu_nu (v:Value) (w:World):(Instr.typeAssert (.iface 119 v) 84 118 true).run Tryz.prog w=.ok (.tuple #[.string ⟨#[]⟩,.bool false]) w:=by kernel_rfl
@[go_sem] theorem is_qu_qu (v:Value) (w:World):(Instr.typeAssert (.iface 119 v) 84 119 true).run Tryz.prog w=.ok (.tuple #[v,.bool true]) w:=by kernel_rfl
@[go_sem] theorem is_no_fx (w:World):(Instr.typeAssert .nilIface 84 120 true).run Tryz.prog w=.ok (.tuple #[.string ⟨#[]⟩,.bool false]) w:=by kernel_rfl
@[go_sem] theorem is_no_nm (w:World):(Instr.typeAssert .nilIface 84 156 true).run Tryz.prog w=.ok (.tuple #[.string ⟨#[]⟩,.bool false]) w:=by kernel_rfl
@[go_sem] theorem is_no_cl (w:World):(Instr.typeAssert .nilIface 84 157 true).run Tryz.prog w=.ok (.tuple #[.string ⟨#[]⟩,.bool false]) w:=by kernel_rfl
@[go_sem] theorem is_no_nu (w:World):(Instr.typeAssert .nilIface 84 118 true).run Tryz.prog w=.ok (.tuple #[.string ⟨#[]⟩,.bool false]) w:=by kernel_rfl
@[go_sem] theorem is_no_qu (w:World):(Instr.typeAssert .nilIface 84 119 true).run Tryz.prog w=.ok (.tuple #[.string ⟨#[]⟩,.bool false]) w:=by kernel_rfl
end
section
open Go.RowKit
theorem Rd.cells {W0 w:World} {c:Nat} {s:RS} (h:Rd W0 c s w):∃ A cap,Ww W0 (.slice A s.ws.length cap) s.ws∧(s.ws.length≤cap∧cap≤maxLen∧s.ws.length≤1000000)∧Bx w c #[.slice A s.ws.length cap,.int .i64 s.sz,.int .i64 s.op,.int .i64 s.wc,.int .i64 s.wa,.int .i64 s.lc,.int .i64 s.la] 56:=by
 obtain ⟨_,_,v,hw,hx⟩:=h
 obtain ⟨A,cap,rfl,h1,h2,h3⟩:=hw.form
 exact ⟨A,cap,hw,⟨h1,h2,h3⟩,hx⟩
theorem Rd.cellsW {W0 w:World} {c:Nat} {s:RS} (h:Rd W0 c s w):∃ A cap,Ww w (.slice A s.ws.length cap) s.ws∧(s.ws.length≤cap∧cap≤maxLen∧s.ws.length≤1000000)∧Bx w c #[.slice A s.ws.length cap,.int .i64 s.sz,.int .i64 s.op,.int .i64 s.wc,.int .i64 s.wa,.int .i64 s.lc,.int .i64 s.la] 56:=by
 obtain ⟨A,cap,hw,hm,hx⟩:=h.cells
 exact ⟨A,cap,h.lies hw,hm,hx⟩
theorem note_any (w:World) (c o:Nat) (x y k t:Int) (h0:w.cell? ⟨c,o,none⟩=some (.int .i64 x)) (h1:w.cell? ⟨c,o+1,none⟩=some (.int .i64 y)) (f0:w.frozen? ⟨c,o,none⟩=false) (f1:w.frozen? ⟨c,o+1,none⟩=false) :
  Calls Tryz.prog 106 #[.pointer (some ⟨c,o,none⟩),.int .i64 k,.int .i64 t] w fun e w'=>e=.returned (.tuple #[])∧w'=if x=0 then ((w.alloc (.cells #[.int .i64 x,.int .i64 y] 52)).setCell ⟨c,o,none⟩ (.int .i64 k)).setCell ⟨c,o+1,none⟩ (.int .i64 t) else w.alloc (.cells #[.int .i64 x,.int .i64 y] 52):=by
 have hlt:=World.block_lt_of_cell? w (a:=⟨c,o,none⟩) h0
 have K:=Keep.below ((Below.refl _ w).alloc (Nat.le_refl _) (.cells #[.int .i64 x,.int .i64 y] 52))
 have g0:=K _ _ h0
 have g1:=K _ _ h1
 have e0:(w.alloc (.cells #[.int .i64 x,.int .i64 y] 52)).frozen? ⟨c,o,none⟩=false:=(World.frozen?_of_block (w:=w) (a:=⟨c,o,none⟩) (Below.heap_alloc _ _ _ hlt)).trans f0
 have e1:(w.alloc (.cells #[.int .i64 x,.int .i64 y] 52)).frozen? ⟨c,o+1,none⟩=false:=(World.frozen?_of_block (w:=w) (a:=⟨c,o+1,none⟩) (Below.heap_alloc _ _ _ hlt)).trans f1
 clear K
 by_cases hx:x=0
 ·subst hx
  go_enter Tryz.func106,Tryz.ntmps106
  go_wp2_with (go_at_call 16;refine (ae8 _ _ _).mono ?_;rintro e w1 ⟨rfl,rfl⟩)
  exact bodyPost_end (v:=.tuple #[]) (by simp [results,Tryz.results106,go_sem]) rfl ⟨rfl,by simp⟩
 ·have hb:(x != 0)=true:=by simpa using hx
  go_enter Tryz.func106,Tryz.ntmps106
  go_wp2_with (go_at_call 16;refine (ae8 _ _ _).mono ?_;rintro e w1 ⟨rfl,rfl⟩)
  exact bodyPost_end (v:=.tuple #[]) (by simp [results,Tryz.results106,go_sem]) rfl ⟨rfl,by simp [hx]⟩
theorem at_any (W0 w:World) (c:Nat) (s:RS) (h:Rd W0 c s w):Calls Tryz.prog 107 #[.pointer (some ⟨c,0,none⟩)] w fun e w'=>e=.returned (.int .i64 s.at)∧w=w':=by
 obtain ⟨ws,sz,op,wc,wa,lc,la⟩:=s
 obtain ⟨A,cap,hw,hm,hx⟩:=h.cellsW
 simp only at hw hm hx
 have hK:Keep w w:=fun _ _ hu=>hu
 have c0:=hx.cell 0;have c1:=hx.cell 1
 simp only [List.getElem?_toArray,List.getElem?_cons_succ,List.getElem?_cons_zero] at c0 c1
 simp only [RS.at]
 cases ws with
 | nil =>
  clear hw hx h hK
  go_enter Tryz.func107,Tryz.ntmps107
  go_wp2
  go_ret
  exact ⟨rfl,rfl⟩
 | cons x ws =>
  obtain ⟨b,o,y,rfl,hy,hc0,hc1⟩:=hw.get (k:=0) (by simp)
  simp at hy
  subst hy
  have d1:=hK _ _ hc1
  simp only [Nat.zero_mul,Nat.add_zero] at d1
  have hl:(0:Int) < ((x :: ws).length:Int):=by simp
  have hl2:(((x :: ws).length:Int) == 0)=false:=by rw [beq_eq_false_iff_ne];omega
  obtain ⟨n,hn⟩:∃ n,(x :: ws).length=n:=⟨_,rfl⟩
  rw [hn] at c0 hl hl2
  clear hw hx h hK hc0 hc1 hm
  go_enter Tryz.func107,Tryz.ntmps107
  go_wp2
  go_ret
  exact ⟨rfl,rfl⟩
theorem abl (W0 w:World) (c k:Nat) (s:RS) (h:Rd W0 c s w) (hk:k≤10):Calls Tryz.prog 103 #[.pointer (some ⟨c,0,none⟩),.int .i64 k] w fun e w'=>e=.returned (aar s.ws k)∧w=w':=by
 obtain ⟨ws,sz,op,wc,wa,lc,la⟩:=s
 obtain ⟨A,cap,hw,hm,hx⟩:=h.cellsW
 simp only at hw hm hx
 have hK:Keep w w:=fun _ _ hu=>hu
 have c0:=hx.cell 0
 simp only [List.getElem?_toArray,List.getElem?_cons_zero] at c0
 simp only at hw hm c0 ⊢
 obtain ⟨n,hn⟩:∃ n,ws.length=n:=⟨_,rfl⟩
 rw [hn] at hw hm c0
 by_cases hlt:k < n
 ·obtain ⟨b,o,y,rfl,hy,hc0,hc1⟩:=hw.get hlt
  have d0:=hK _ _ hc0
  have hv:aar ws k=y.1.V:=by unfold aar;rw [hy]
  rw [hv]
  obtain ⟨V,hV⟩:∃ V,y.1.V=V:=⟨_,rfl⟩
  rw [hV] at d0 ⊢
  have hf:∃ T u,V=.iface T u:=by rw [← hV];cases y.1<;>exact ⟨_,_,rfl⟩
  obtain ⟨T,u,rfl⟩:=hf
  have hlt':(k:Int) < n:=by omega
  have hk0:(0:Int)≤k:=by omega
  clear hw hx h hK hc0 hc1 hV hv hy
  go_enter Tryz.func103,Tryz.ntmps103
  go_wp2
  go_ret
  exact ⟨rfl,rfl⟩
 ·have hv:aar ws k=.nilIface:=by unfold aar;rw [List.getElem?_eq_none (by omega)]
  rw [hv]
  have hlt':(n:Int)≤k:=by omega
  clear hw hx h hK hv
  go_enter Tryz.func103,Tryz.ntmps103
  go_wp2
  go_ret
  exact ⟨rfl,rfl⟩
theorem Rd.put {W0 w:World} {c:Nat} {s s':RS} {u:Value} (h:Rd W0 c s w) (hw:Ww W0 u s'.ws) (h1:s'.sz=s.sz∧s'.op=s.op∧s'.wc=s.wc∧s'.wa=s.wa∧s'.lc=s.lc∧s'.la=s.la):Mv W0 c s' w (w.setCell ⟨c,0,none⟩ u):=by
 obtain ⟨A,cap,_,_,hx⟩:=h.cells
 obtain ⟨e1,e2,e3,e4,e5,e6⟩:=h1
 refine ⟨adc _ _ _ _,h.1.setCell h.2.1 _,h.2.1,u,hw,?_⟩
 rw [e1,e2,e3,e4,e5,e6]
 simpa using hx.set 0 u
theorem afq (W0 w:World) (c:Nat) (s:RS) (h:Rd W0 c s w) (hn:s.ws≠[]):Calls Tryz.prog 105 #[.pointer (some ⟨c,0,none⟩)] w fun e w'=>e=.returned (.tuple #[])∧Mv W0 c s.skip w w':=by
 obtain ⟨ws,sz,op,wc,wa,lc,la⟩:=s
 obtain ⟨A,cap,hw,hm,hx⟩:=h.cells
 simp only at hw hm hx
 cases ws with
 | nil=>exact absurd rfl hn
 | cons x ws =>
  obtain ⟨b,o,y,rfl,_,_,_⟩:=hw.get (k:=0) (by simp)
  have c0:=hx.cell 0
  have f0:=hx.fro 0
  simp only [List.getElem?_toArray,List.getElem?_cons_zero] at c0
  by_cases hcap:cap=1
  ·subst hcap
   have hws:ws=[]:=List.eq_nil_of_length_eq_zero (by simp only [List.length_cons] at hm;omega)
   subst hws
   have HP:=ke (h.put (s':=RS.skip ⟨[x],sz,op,wc,wa,lc,la⟩) (Ww.empt W0 (some ⟨b,o,none⟩) 0 (by unfold maxLen;omega)) ⟨rfl,rfl,rfl,rfl,rfl,rfl⟩)
   clear hw hx h
   go_enter Tryz.func105,Tryz.ntmps105
   go_wp2
   exact bodyPost_end (v:=.tuple #[]) (by simp [results,Tryz.results105,go_sem]) rfl ⟨rfl,HP.out⟩
  ·have HP:=ke (h.put (s':=RS.skip ⟨x :: ws,sz,op,wc,wa,lc,la⟩) hw.tail ⟨rfl,rfl,rfl,rfl,rfl,rfl⟩)
   simp only [List.length_cons] at *
   have h1:(1:Int)≤((ws.length+1:Nat):Int):=by omega
   have h2:((ws.length+1:Nat):Int)≤cap:=by omega
   clear hw hx h
   go_enter Tryz.func105,Tryz.ntmps105
   go_wp2
   exact bodyPost_end (v:=.tuple #[]) (by simp [results,Tryz.results105,go_sem]) rfl ⟨rfl,HP.out⟩
theorem Mv.below {W0 w w':World} {c:Nat} {s:RS} (hb:Below w.heap.size w w') (h:Rd W0 c s w):Mv W0 c s w w':=by
 obtain ⟨h1,h2,v,hw,hx⟩:=h
 exact ⟨⟨hb.os,hb.tape,hb.output,hb.size,fun k hk _=>hb.block k hk⟩,h1.trans (hb.mono h1.size),h2,v,hw,hx.next hb⟩
theorem Rd.noted {W0 w:World} {c:Nat} {s:RS} (h:Rd W0 c s w) (k t:Int) :
  Mv W0 c (if s.wc=0 then { s with wc:=k,wa:=t } else s) w (if s.wc=0 then ((w.alloc (.cells #[.int .i64 s.wc,.int .i64 s.wa] 52)).setCell ⟨c,3,none⟩ (.int .i64 k)).setCell ⟨c,4,none⟩ (.int .i64 t) else w.alloc (.cells #[.int .i64 s.wc,.int .i64 s.wa] 52)):=by
 have hb:=(Below.refl _ w).alloc (Nat.le_refl _) (.cells #[.int .i64 s.wc,.int .i64 s.wa] 52)
 have hm:=Mv.below hb h
 split
 ·obtain ⟨hg,h1,h2,v,hw,hx⟩:=hm
  refine ⟨(hg.trans (adc _ _ _ _)).trans (adc _ _ _ _),(h1.setCell h2 _).setCell h2 _,h2,v,hw,?_⟩
  have:=(hx.set 3 (.int .i64 k)).set 4 (.int .i64 t)
  simpa using this
 ·exact hm
theorem afs (W0 w:World) (c:Nat) (s:RS) (k:Int) (h:Rd W0 c s w):Calls Tryz.prog 63 #[.pointer (some ⟨c,0,none⟩),.int .i64 k] w fun e w'=>e=.returned (.tuple #[])∧Mv W0 c (s.fail k) w w':=by
 have HA:=ke (at_any W0 w.drew c s h.drew)
 obtain ⟨A,cap,hw,hm,hx⟩:=h.cells
 have c3:=hx.cell 3;have c4:=hx.cell 4;have f3:=hx.fro 3;have f4:=hx.fro 4
 simp only [List.getElem?_toArray,List.getElem?_cons_succ,List.getElem?_cons_zero] at c3 c4
 have HN:=ke (note_any w.drew c 3 s.wc s.wa k s.at c3 c4 f3 f4)
 obtain ⟨w2,hw2⟩:∃ w2,(if s.wc=0 then (((w.drew).alloc (.cells #[.int .i64 s.wc,.int .i64 s.wa] 52)).setCell ⟨c,3,none⟩ (.int .i64 k)).setCell ⟨c,4,none⟩ (.int .i64 s.at) else (w.drew).alloc (.cells #[.int .i64 s.wc,.int .i64 s.wa] 52))=w2:=⟨_,rfl⟩
 have hn:=h.drew.noted k s.at
 rw [hw2] at hn
 rw [hw2] at HN
 have hmv:Mv W0 c (s.fail k) w (w2.setCell ⟨c,0,none⟩ (.slice none 0 0)):=by
  have hp:=Rd.put (s':=s.fail k) (u:=.slice none 0 0) hn.2 (by unfold RS.fail;split<;>exact Ww.nil _) (by unfold RS.fail;split<;>exact ⟨rfl,rfl,rfl,rfl,rfl,rfl⟩)
  exact ⟨(⟨rfl,rfl,rfl,Nat.le_refl _,fun _ _ _=>rfl⟩:w.grownBy w.drew (some c)).trans (hn.1.trans hp.1),hp.2⟩
 obtain ⟨_,_,_,_,hx2⟩:=hn.2
 have d0:=hx2.cell 0
 have g0:=hx2.fro 0
 simp only [List.getElem?_toArray,List.getElem?_cons_zero] at d0
 have HM:=ke hmv
 obtain ⟨t,ht⟩:∃ t,s.at=t:=⟨_,rfl⟩
 rw [ht] at HA HN
 clear hw hm hx c3 c4 f3 f4 hw2 hn hmv hx2 h ht
 go_enter Tryz.func63,Tryz.ntmps63
 go_wp2_with fail
 go_region_with (first
  | (go_at_call 107;refine HA.out.mono ?_;clear HA;rintro e w1 ⟨rfl,rfl⟩)
  | (go_at_call 106;refine HN.out.mono ?_;clear HN;rintro e w1 ⟨rfl,rfl⟩))
 all_goals
  go_wp2_with fail
  exact bodyPost_end (v:=.tuple #[]) (by simp [results,Tryz.results63,go_sem]) rfl ⟨rfl,HM.out⟩
end
section
open Go.RowKit
theorem sees_fx {s:RS} {n:Nat} {t p:ByteArray} {a:Int} (h:s.ws[n]?=some (.fx t,a)):s.sees n p=(t.toList == p.toList):=by simp [RS.sees,aik,h]
theorem af9 (W0 w:World) (c n:Nat) (s:RS) (p:ByteArray) (h:Rd W0 c s w) (hn:n≤10):Calls Tryz.prog 159 #[.pointer (some ⟨c,0,none⟩),.int .i64 n,.string p] w fun e w'=>e=.returned (.bool (s.sees n p))∧w=w':=by
 have HA:=ke (abl W0 w c n s h hn)
 clear h
 cases hx:s.ws[n]? with
 | none =>
  have hs:s.sees n p=false:=by simp [RS.sees,aik,hx]
  have hv:aar s.ws n=.nilIface:=by simp [aar,hx]
  rw [hv] at HA
  rw [hs]
  clear hx hv hs
  go_enter Tryz.func159,Tryz.ntmps159
  go_wp2_with (go_at_call 103;refine HA.out.mono ?_;clear HA;rintro e w1 ⟨rfl,rfl⟩)
  go_ret
  exact ⟨rfl,rfl⟩
 | some x =>
  obtain ⟨q,a⟩:=x
  have hv:aar s.ws n=q.V:=by simp [aar,hx]
  rw [hv] at HA
  cases q with
  | fx t =>
   rw [sees_fx hx]
   simp only [Pr.V] at HA
   obtain ⟨r,hr⟩:∃ r,(t.toList == p.toList)=r:=⟨_,rfl⟩
   rw [hr]
   clear hx hv
   go_enter Tryz.func159,Tryz.ntmps159
   go_wp2_with (go_at_call 103;refine HA.out.mono ?_;clear HA;rintro e w1 ⟨rfl,rfl⟩)
   go_ret
   exact ⟨rfl,rfl⟩
  | nm t|cl t|nu t|qu t =>
   have hs:s.sees n p=false:=by simp [RS.sees,aik,hx]
   rw [hs]
   simp only [Pr.V] at HA
   clear hx hv hs
   go_enter Tryz.func159,Tryz.ntmps159
   go_wp2_with (go_at_call 103;refine HA.out.mono ?_;clear HA;rintro e w1 ⟨rfl,rfl⟩)
   go_ret
   exact ⟨rfl,rfl⟩
theorem abo (W0 w:World) (c:Nat) (s:RS) (p:ByteArray) (h:Rd W0 c s w):Calls Tryz.prog 118 #[.pointer (some ⟨c,0,none⟩),.string p] w fun e w'=>e=.returned (.bool (s.sees 0 p))∧w=w':=by
 have HA:=ke (af9 W0 w c 0 s p h (by omega))
 obtain ⟨r,hr⟩:∃ r,s.sees 0 p=r:=⟨_,rfl⟩
 rw [hr] at HA ⊢
 clear h hr
 go_enter Tryz.func118,Tryz.ntmps118
 go_wp2_with (go_at_call 159;refine HA.out.mono ?_;clear HA;rintro e w1 ⟨rfl,rfl⟩)
 go_ret
 exact ⟨rfl,rfl⟩
theorem sees_ne {s:RS} {p:ByteArray} (h:s.sees 0 p=true):s.ws≠[]:=by
 intro e;simp [RS.sees,aik,e] at h
theorem aca (W0 w:World) (c:Nat) (s:RS) (p:ByteArray) (h:Rd W0 c s w):Calls Tryz.prog 73 #[.pointer (some ⟨c,0,none⟩),.string p] w fun e w'=>e=.returned (.bool (s.sees 0 p))∧Mv W0 c (s.take p) w w':=by
 have HA:=ke (abo W0 w c s p h)
 cases hr:s.sees 0 p with
 | false =>
  have HM:Hid (Mv W0 c (s.take p) w w):=by show Mv _ _ _ _ _;rw [RS.take,if_neg (by simp [hr])];exact Mv.refl h
  rw [hr] at HA
  clear h hr
  go_enter Tryz.func73,Tryz.ntmps73
  go_wp2_with (go_at_call 118;refine HA.out.mono ?_;clear HA;rintro e w1 ⟨rfl,rfl⟩)
  go_ret
  exact ⟨rfl,HM.out⟩
 | true =>
  have HS:=ke (afq W0 w c s h (sees_ne hr))
  have HE:=ke (show s.take p=s.skip by rw [RS.take,if_pos hr])
  rw [hr] at HA
  clear h hr
  go_enter Tryz.func73,Tryz.ntmps73
  go_wp2_with (first|(go_at_call 118;refine HA.out.mono ?_;clear HA;rintro e w1 ⟨rfl,rfl⟩)|(go_at_call 105;refine HS.out.mono ?_;clear HS;rintro e w1 ⟨rfl,hm⟩;have HM:=ke hm;clear hm))
  go_ret
  exact ⟨rfl,by rw [HE.out];exact HM.out⟩
theorem abd (W0 w:World) (c:Nat) (s:RS) (p:ByteArray) (h:Rd W0 c s w):Calls Tryz.prog 71 #[.pointer (some ⟨c,0,none⟩),.string p] w fun e w'=>e=.returned (.tuple #[])∧Mv W0 c (s.need p) w w':=by
 have HA:=ke (aca W0 w c s p h)
 cases hr:s.sees 0 p with
 | true =>
  have HE:=ke (show s.need p=s.take p by rw [RS.need,RS.take,if_pos hr,if_pos hr])
  rw [hr] at HA
  clear h hr
  go_enter Tryz.func71,Tryz.ntmps71
  go_wp2_with (go_at_call 73;refine HA.out.mono ?_;clear HA;rintro e w1 ⟨rfl,hm⟩;have HM:=ke hm;clear hm)
  exact bodyPost_end (v:=.tuple #[]) (by simp [results,Tryz.results71,go_sem]) rfl ⟨rfl,by rw [HE.out];exact HM.out⟩
 | false =>
  have hE:s.need p=s.fail 3:=by rw [RS.need,if_neg (by simp [hr])]
  have hT:s.take p=s:=by rw [RS.take,if_neg (by simp [hr])]
  rw [hT] at HA
  have HE:=ke hE
  rw [hr] at HA
  have HF:Hid (∀ w',Rd W0 c s w'→Calls Tryz.prog 63 #[.pointer (some ⟨c,0,none⟩),.int .i64 3] w' fun e w''=>e=.returned (.tuple #[])∧Mv W0 c (s.fail 3) w' w''):=by
   show ∀ w',_
   intro w' h';exact afs W0 w' c s 3 h'
  clear h hr hE hT
  go_enter Tryz.func71,Tryz.ntmps71
  go_wp2_with (first|(go_at_call 73;refine HA.out.mono ?_;clear HA;rintro e w1 ⟨rfl,hm⟩;have HM:=ke hm;clear hm)|(go_at_call 63;refine (HF.out _ HM.out.2).mono ?_;clear HF;rintro e w2 ⟨rfl,hm⟩;have HM2:=ke (HM.out.trans hm);clear hm))
  exact bodyPost_end (v:=.tuple #[]) (by simp [results,Tryz.results71,go_sem]) rfl ⟨rfl,by rw [HE.out];exact HM2.out⟩
end
section
open Go.RowKit
def RS.inc (r:RS):RS:={ r with op:=wrap64 (r.op+1) }
def RS.dec (r:RS):RS:={ r with op:=wrap64 (r.op - 1) }
def RS.enter (r:RS) (p:ByteArray):RS:=((if r.op=41∧r.sees 0 p=true then r.fail 4 else r).need p).inc
def RS.leave (r:RS) (p:ByteArray):RS:=(r.need p).dec
def RS.called (r:RS) (t:ByteArray) (is:Bool):RS:=if is=true then (if 20 < t.size then r.fail 5 else r.skip) else r.fail 3
def RS.calledV (t:ByteArray) (is:Bool):ByteArray:=if is=true∧t.size≤20 then t else ⟨#[]⟩
def nmP:Option Pl→Option ByteArray
 | some (.nm t,_)=>some t
 | _=>none
def clP:Option Pl→Option ByteArray
 | some (.cl t,_)=>some t
 | _=>none
def RS.byO (r:RS) (o:Option ByteArray):RS:=match o with|some t=>r.called t true|none=>r.called ⟨#[]⟩ false
def byV (o:Option ByteArray):ByteArray:=match o with|some t=>RS.calledV t true|none=>⟨#[]⟩
def RS.name (r:RS):RS:=r.byO (nmP r.ws[0]?)
def RS.nameV (r:RS):ByteArray:=byV (nmP r.ws[0]?)
def RS.class (r:RS):RS:=r.byO (clP r.ws[0]?)
def RS.classV (r:RS):ByteArray:=byV (clP r.ws[0]?)
theorem Rd.inc {W0 w:World} {c:Nat} {s:RS} (h:Rd W0 c s w):Mv W0 c s.inc w (w.setCell ⟨c,2,none⟩ (.int .i64 (wrap64 (s.op+1)))):=by
 obtain ⟨h1,h2,v,hw,hx⟩:=h
 refine ⟨adc _ _ _ _,h1.setCell h2 _,h2,v,hw,?_⟩
 have:=hx.set 2 (.int .i64 (wrap64 (s.op+1)))
 simpa [RS.inc] using this
theorem Rd.dec {W0 w:World} {c:Nat} {s:RS} (h:Rd W0 c s w):Mv W0 c s.dec w (w.setCell ⟨c,2,none⟩ (.int .i64 (wrap64 (s.op - 1)))):=by
 obtain ⟨h1,h2,v,hw,hx⟩:=h
 refine ⟨adc _ _ _ _,h1.setCell h2 _,h2,v,hw,?_⟩
 have:=hx.set 2 (.int .i64 (wrap64 (s.op - 1)))
 simpa [RS.dec] using this
theorem aek {a b:ByteArray} (h:b=a):Ending.returned (.string a)=.returned (.string b):=by rw [h]
theorem Rd.op {W0 w:World} {c:Nat} {s:RS} (h:Rd W0 c s w):w.cell? ⟨c,2,none⟩=some (.int .i64 s.op)∧w.frozen? ⟨c,2,none⟩=false:=by
 obtain ⟨_,_,v,_,hx⟩:=h
 exact ⟨by simpa using hx.cell 2,hx.fro 2⟩
theorem afl (W0 w:World) (c:Nat) (s:RS) (p:ByteArray) (h:Rd W0 c s w):Calls Tryz.prog 142 #[.pointer (some ⟨c,0,none⟩),.string p] w fun e w'=>e=.returned (.tuple #[])∧Mv W0 c (s.enter p) w w':=by
 have HA:=ke (abo W0 w c s p h)
 have HF:Hid (∀ w',Rd W0 c s w'→Calls Tryz.prog 63 #[.pointer (some ⟨c,0,none⟩),.int .i64 4] w' fun e w''=>e=.returned (.tuple #[])∧Mv W0 c (s.fail 4) w' w''):=by
  show ∀ w',_
  intro w' h';exact afs W0 w' c s 4 h'
 have HN:Hid (∀ (s':RS) w',Rd W0 c s' w'→Calls Tryz.prog 71 #[.pointer (some ⟨c,0,none⟩),.string p] w' fun e w''=>e=.returned (.tuple #[])∧Mv W0 c (s'.need p) w' w''):=by
  show ∀ s' w',_
  intro s' w' h';exact abd W0 w' c s' p h'
 obtain ⟨c2,f2⟩:=h.op
 have H:=ke h
 obtain ⟨o,ho⟩:∃ o,s.op=o:=⟨_,rfl⟩
 rw [ho] at c2
 cases hr:s.sees 0 p with
 | false =>
  have HE:=ke (show s.enter p=(s.need p).inc by unfold RS.enter;rw [if_neg (by simp [hr])])
  rw [hr] at HA
  by_cases ho41:o=41
  ·subst ho41
   clear h hr ho
   go_enter Tryz.func142,Tryz.ntmps142
   go_wp2_with (first|(go_at_call 118;refine HA.out.mono ?_;clear HA;rintro e w1 ⟨rfl,rfl⟩)|(go_at_call 71;refine (HN.out s _ H.out).mono ?_;clear HN;rintro e w1 ⟨rfl,hm⟩;obtain ⟨d2,g2⟩:=hm.2.op;have HM:=ke (hm.trans hm.2.inc);clear hm))
   exact bodyPost_end (v:=.tuple #[]) (by simp [results,Tryz.results142,go_sem]) rfl ⟨rfl,by rw [HE.out];exact HM.out⟩
  ·have hob:(o == 41)=false:=by rw [beq_eq_false_iff_ne];exact ho41
   clear h hr ho
   go_enter Tryz.func142,Tryz.ntmps142
   go_wp2_with (first|(go_at_call 118;refine HA.out.mono ?_;clear HA;rintro e w1 ⟨rfl,rfl⟩)|(go_at_call 71;refine (HN.out s _ H.out).mono ?_;clear HN;rintro e w1 ⟨rfl,hm⟩;obtain ⟨d2,g2⟩:=hm.2.op;have HM:=ke (hm.trans hm.2.inc);clear hm))
   exact bodyPost_end (v:=.tuple #[]) (by simp [results,Tryz.results142,go_sem]) rfl ⟨rfl,by rw [HE.out];exact HM.out⟩
 | true =>
  rw [hr] at HA
  by_cases ho41:o=41
  ·have HE:=ke (show s.enter p=((s.fail 4).need p).inc by unfold RS.enter;rw [if_pos ⟨by omega,hr⟩])
   subst ho41
   clear h hr ho
   go_enter Tryz.func142,Tryz.ntmps142
   go_wp2_with (first|(go_at_call 118;refine HA.out.mono ?_;clear HA;rintro e w1 ⟨rfl,rfl⟩)|(go_at_call 63;refine (HF.out _ H.out).mono ?_;clear HF;rintro e w1 ⟨rfl,hm⟩;have HM1:=ke hm;clear hm)|(go_at_call 71;refine (HN.out (s.fail 4) _ HM1.out.2).mono ?_;clear HN;rintro e w2 ⟨rfl,hm⟩;obtain ⟨d2,g2⟩:=hm.2.op;have HM:=ke ((HM1.out.trans hm).trans hm.2.inc);clear hm))
   exact bodyPost_end (v:=.tuple #[]) (by simp [results,Tryz.results142,go_sem]) rfl ⟨rfl,by rw [HE.out];exact HM.out⟩
  ·have HE:=ke (show s.enter p=(s.need p).inc by unfold RS.enter;rw [if_neg (by rintro ⟨g,_⟩;omega)])
   have hob:(o == 41)=false:=by rw [beq_eq_false_iff_ne];exact ho41
   clear h hr ho
   go_enter Tryz.func142,Tryz.ntmps142
   go_wp2_with (first|(go_at_call 118;refine HA.out.mono ?_;clear HA;rintro e w1 ⟨rfl,rfl⟩)|(go_at_call 71;refine (HN.out s _ H.out).mono ?_;clear HN;rintro e w1 ⟨rfl,hm⟩;obtain ⟨d2,g2⟩:=hm.2.op;have HM:=ke (hm.trans hm.2.inc);clear hm))
   exact bodyPost_end (v:=.tuple #[]) (by simp [results,Tryz.results142,go_sem]) rfl ⟨rfl,by rw [HE.out];exact HM.out⟩
theorem ai2 (W0 w:World) (c:Nat) (s:RS) (p:ByteArray) (h:Rd W0 c s w):Calls Tryz.prog 185 #[.pointer (some ⟨c,0,none⟩),.string p] w fun e w'=>e=.returned (.tuple #[])∧Mv W0 c (s.leave p) w w':=by
 have HN:=ke (abd W0 w c s p h)
 clear h
 go_enter Tryz.func185,Tryz.ntmps185
 go_wp2_with (go_at_call 71;refine HN.out.mono ?_;clear HN;rintro e w1 ⟨rfl,hm⟩;obtain ⟨d2,g2⟩:=hm.2.op;have HM:=ke (hm.trans hm.2.dec);clear hm)
 exact bodyPost_end (v:=.tuple #[]) (by simp [results,Tryz.results185,go_sem]) rfl ⟨rfl,HM.out⟩
theorem afa (W0 w:World) (c:Nat) (s:RS) (t:ByteArray) (is:Bool) (h:Rd W0 c s w) (hne:is=true→s.ws≠[]) (ht:t.size≤maxLen):Calls Tryz.prog 117 #[.pointer (some ⟨c,0,none⟩),.string t,.bool is] w fun e w'=>e=.returned (.string (RS.calledV t is))∧Mv W0 c (s.called t is) w w':=by
 unfold maxLen at ht
 cases is with
 | false =>
  have HF:=ke (afs W0 w c s 3 h)
  have HE:=ke (show s.called t false=s.fail 3 by simp [RS.called])
  have HV:=ke (show RS.calledV t false=⟨#[]⟩ by simp [RS.calledV])
  clear h hne
  go_enter Tryz.func117,Tryz.ntmps117
  go_wp2_with (go_at_call 63;refine HF.out.mono ?_;clear HF;rintro e w1 ⟨rfl,hm⟩;have HM:=ke hm;clear hm)
  go_ret
  exact ⟨aek HV.out,by rw [HE.out];exact HM.out⟩
 | true =>
  by_cases hl:t.size≤20
  ·have HS:=ke (afq W0 w c s h (hne rfl))
   have HE:=ke (show s.called t true=s.skip by rw [RS.called,if_pos rfl,if_neg (by omega)])
   have HV:=ke (show RS.calledV t true=t by simp [RS.calledV,hl])
   have hl':(t.size:Int)≤20:=by omega
   clear h hne
   go_enter Tryz.func117,Tryz.ntmps117
   go_wp2_with (go_at_call 105;refine HS.out.mono ?_;clear HS;rintro e w1 ⟨rfl,hm⟩;have HM:=ke hm;clear hm)
   go_ret
   exact ⟨aek HV.out,by rw [HE.out];exact HM.out⟩
  ·have HF:=ke (afs W0 w c s 5 h)
   have HE:=ke (show s.called t true=s.fail 5 by rw [RS.called,if_pos rfl,if_pos (by omega)])
   have HV:=ke (show RS.calledV t true=⟨#[]⟩ by simp [RS.calledV,hl])
   have hl':(20:Int) < (t.size:Int):=by omega
   clear h hne
   go_enter Tryz.func117,Tryz.ntmps117
   go_wp2_with (go_at_call 63;refine HF.out.mono ?_;clear HF;rintro e w1 ⟨rfl,hm⟩;have HM:=ke hm;clear hm)
   go_ret
   exact ⟨aek HV.out,by rw [HE.out];exact HM.out⟩
theorem Rd.short {W0 w:World} {c:Nat} {s:RS} (h:Rd W0 c s w) {n:Nat} {x:Pl} (hx:s.ws[n]?=some x):x.1.text.size≤1000000:=by
 obtain ⟨_,_,v,⟨_,_,_,_,ht,_⟩,_⟩:=h
 exact ht x (List.mem_of_getElem? hx)
theorem Rd.text {W0 w:World} {c:Nat} {s:RS} (h:Rd W0 c s w) {n:Nat} {x:Pl} (hx:s.ws[n]?=some x):x.1.text.size≤maxLen:=Nat.le_trans (h.short hx) (by unfold maxLen;omega)
theorem ahd {l:List Pl} {n:Nat} {x:Pl} (h:l[n]?=some x):l≠[]:=by rintro rfl;simp at h
theorem acq (W0 w:World) (c:Nat) (s:RS) (h:Rd W0 c s w):Calls Tryz.prog 122 #[.pointer (some ⟨c,0,none⟩)] w fun e w'=>e=.returned (.string s.nameV)∧Mv W0 c s.name w w':=by
 have HA:=ke (abl W0 w c 0 s h (by omega))
 cases hx:s.ws[0]? with
 | none =>
  have HC:=ke (afa W0 w c s ⟨#[]⟩ false h (by simp) (Nat.zero_le _))
  have HE:=ke (show s.name=s.called ⟨#[]⟩ false by simp [RS.name,nmP,hx,RS.byO])
  have HV:=ke (show s.nameV=RS.calledV ⟨#[]⟩ false by simp [RS.nameV,nmP,hx,byV,RS.calledV])
  have hv:aar s.ws 0=.nilIface:=by simp [aar,hx]
  rw [hv] at HA
  clear hx hv h
  go_enter Tryz.func122,Tryz.ntmps122
  go_wp2_with (first|(go_at_call 103;refine HA.out.mono ?_;clear HA;rintro e w1 ⟨rfl,rfl⟩)|(go_at_call 117;refine HC.out.mono ?_;clear HC;rintro e w1 ⟨rfl,hm⟩;have HM:=ke hm;clear hm))
  go_ret
  exact ⟨aek HV.out,by rw [HE.out];exact HM.out⟩
 | some x =>
  obtain ⟨q,a⟩:=x
  have hv:aar s.ws 0=q.V:=by simp [aar,hx]
  rw [hv] at HA
  cases q with
  | nm t =>
   have HC:=ke (afa W0 w c s t true h (fun _=>ahd hx) (h.text hx))
   have HE:=ke (show s.name=s.called t true by simp [RS.name,nmP,hx,RS.byO])
   have HV:=ke (show s.nameV=RS.calledV t true by simp [RS.nameV,nmP,hx,byV])
   simp only [Pr.V] at HA
   clear hx hv h
   go_enter Tryz.func122,Tryz.ntmps122
   go_wp2_with (first|(go_at_call 103;refine HA.out.mono ?_;clear HA;rintro e w1 ⟨rfl,rfl⟩)|(go_at_call 117;refine HC.out.mono ?_;clear HC;rintro e w1 ⟨rfl,hm⟩;have HM:=ke hm;clear hm))
   go_ret
   exact ⟨aek HV.out,by rw [HE.out];exact HM.out⟩
  | fx t|cl t|nu t|qu t =>
   have HC:=ke (afa W0 w c s ⟨#[]⟩ false h (by simp) (Nat.zero_le _))
   have HE:=ke (show s.name=s.called ⟨#[]⟩ false by simp [RS.name,nmP,hx,RS.byO])
   have HV:=ke (show s.nameV=RS.calledV ⟨#[]⟩ false by simp [RS.nameV,nmP,hx,byV,RS.calledV])
   simp only [Pr.V] at HA
   clear hx hv h
   go_enter Tryz.func122,Tryz.ntmps122
   go_wp2_with (first|(go_at_call 103;refine HA.out.mono ?_;clear HA;rintro e w1 ⟨rfl,rfl⟩)|(go_at_call 117;refine HC.out.mono ?_;clear HC;rintro e w1 ⟨rfl,hm⟩;have HM:=ke hm;clear hm))
   go_ret
   exact ⟨aek HV.out,by rw [HE.out];exact HM.out⟩
theorem acv (W0 w:World) (c:Nat) (s:RS) (h:Rd W0 c s w):Calls Tryz.prog 72 #[.pointer (some ⟨c,0,none⟩)] w fun e w'=>e=.returned (.string s.classV)∧Mv W0 c s.class w w':=by
 have HA:=ke (abl W0 w c 0 s h (by omega))
 cases hx:s.ws[0]? with
 | none =>
  have HC:=ke (afa W0 w c s ⟨#[]⟩ false h (by simp) (Nat.zero_le _))
  have HE:=ke (show s.class=s.called ⟨#[]⟩ false by simp [RS.class,clP,hx,RS.byO])
  have HV:=ke (show s.classV=RS.calledV ⟨#[]⟩ false by simp [RS.classV,clP,hx,byV,RS.calledV])
  have hv:aar s.ws 0=.nilIface:=by simp [aar,hx]
  rw [hv] at HA
  clear hx hv h
  go_enter Tryz.func72,Tryz.ntmps72
  go_wp2_with (first|(go_at_call 103;refine HA.out.mono ?_;clear HA;rintro e w1 ⟨rfl,rfl⟩)|(go_at_call 117;refine HC.out.mono ?_;clear HC;rintro e w1 ⟨rfl,hm⟩;have HM:=ke hm;clear hm))
  go_ret
  exact ⟨aek HV.out,by rw [HE.out];exact HM.out⟩
 | some x =>
  obtain ⟨q,a⟩:=x
  have hv:aar s.ws 0=q.V:=by simp [aar,hx]
  rw [hv] at HA
  cases q with
  | cl t =>
   have HC:=ke (afa W0 w c s t true h (fun _=>ahd hx) (h.text hx))
   have HE:=ke (show s.class=s.called t true by simp [RS.class,clP,hx,RS.byO])
   have HV:=ke (show s.classV=RS.calledV t true by simp [RS.classV,clP,hx,byV])
   simp only [Pr.V] at HA
   clear hx hv h
   go_enter Tryz.func72,Tryz.ntmps72
   go_wp2_with (first|(go_at_call 103;refine HA.out.mono ?_;clear HA;rintro e w1 ⟨rfl,rfl⟩)|(go_at_call 117;refine HC.out.mono ?_;clear HC;rintro e w1 ⟨rfl,hm⟩;have HM:=ke hm;clear hm))
   go_ret
   exact ⟨aek HV.out,by rw [HE.out];exact HM.out⟩
  | fx t|nm t|nu t|qu t =>
   have HC:=ke (afa W0 w c s ⟨#[]⟩ false h (by simp) (Nat.zero_le _))
   have HE:=ke (show s.class=s.called ⟨#[]⟩ false by simp [RS.class,clP,hx,RS.byO])
   have HV:=ke (show s.classV=RS.calledV ⟨#[]⟩ false by simp [RS.classV,clP,hx,byV,RS.calledV])
   simp only [Pr.V] at HA
   clear hx hv h
   go_enter Tryz.func72,Tryz.ntmps72
   go_wp2_with (first|(go_at_call 103;refine HA.out.mono ?_;clear HA;rintro e w1 ⟨rfl,rfl⟩)|(go_at_call 117;refine HC.out.mono ?_;clear HC;rintro e w1 ⟨rfl,hm⟩;have HM:=ke hm;clear hm))
   go_ret
   exact ⟨aek HV.out,by rw [HE.out];exact HM.out⟩
end
section
open Go.RowKit
theorem Rd.words {W0 w:World} {c:Nat} {s:RS} (h:Rd W0 c s w):∃ A cap,w.cell? ⟨c,0,none⟩=some (.slice A s.ws.length cap)∧s.ws.length≤1000000:=by
 obtain ⟨A,cap,_,hm,hx⟩:=h.cells
 exact ⟨A,cap,by simpa using hx.cell 0,hm.2.2⟩
theorem end_any (W0 w:World) (c:Nat) (s:RS) (h:Rd W0 c s w):Calls Tryz.prog 32 #[.pointer (some ⟨c,0,none⟩)] w fun e w'=>e=.returned (.tuple #[])∧Mv W0 c s.fin w w':=by
 obtain ⟨A,cap,c0,hm⟩:=h.words
 have HF:=ke (afs W0 w c s 3 h)
 cases hws:s.ws with
 | nil =>
  have HM:Hid (Mv W0 c s.fin w w):=by show Mv _ _ _ _ _;rw [RS.fin,if_pos (by simp [hws])];exact Mv.refl h
  rw [hws] at c0
  simp only [List.length_nil] at c0
  clear h hws HF hm
  go_enter Tryz.func32,Tryz.ntmps32
  go_wp2
  exact bodyPost_end (v:=.tuple #[]) (by simp [results,Tryz.results32,go_sem]) rfl ⟨rfl,HM.out⟩
 | cons x l =>
  have HE:=ke (show s.fin=s.fail 3 by rw [RS.fin,if_neg (by simp [hws])])
  obtain ⟨n,hn⟩:∃ n,s.ws.length=n:=⟨_,rfl⟩
  have hp:(0:Int) < (n:Int):=by
   have:s.ws.length=l.length+1:=by simp [hws]
   omega
  rw [hn] at c0
  clear h hws hn hm
  go_enter Tryz.func32,Tryz.ntmps32
  go_wp2_with (go_at_call 63;refine HF.out.mono ?_;clear HF;rintro e w1 ⟨rfl,hm⟩;have HM:=ke hm;clear hm)
  exact bodyPost_end (v:=.tuple #[]) (by simp [results,Tryz.results32,go_sem]) rfl ⟨rfl,by rw [HE.out];exact HM.out⟩
theorem ag6 {a b:Bool} (h:b=a):Ending.returned (.bool a)=.returned (.bool b):=by rw [h]
theorem ais (W0 w:World) (c:Nat) (s:RS) (p:ByteArray) (h:Rd W0 c s w):Calls Tryz.prog 74 #[.pointer (some ⟨c,0,none⟩),.string p] w fun e w'=>e=.returned (.bool (s.until p))∧w=w':=by
 obtain ⟨A,cap,c0,hm⟩:=h.words
 have HA:=ke (abo W0 w c s p h)
 cases hws:s.ws with
 | nil =>
  have HE:=ke (show s.until p=false by simp [RS.until,hws])
  rw [hws] at c0
  simp only [List.length_nil] at c0
  clear h hws HA hm
  go_enter Tryz.func74,Tryz.ntmps74
  go_wp2
  go_ret
  exact ⟨ag6 HE.out,rfl⟩
 | cons x l =>
  obtain ⟨q,hq⟩:∃ q,s.sees 0 p=q:=⟨_,rfl⟩
  have HE:=ke (show s.until p=!q by simp [RS.until,hws,hq])
  rw [hq] at HA
  obtain ⟨n,hn⟩:∃ n,s.ws.length=n:=⟨_,rfl⟩
  have hp:(0:Int) < (n:Int):=by
   have:s.ws.length=l.length+1:=by simp [hws]
   omega
  rw [hn] at c0
  clear h hws hn hq hm
  go_enter Tryz.func74,Tryz.ntmps74
  go_wp2_with (go_at_call 118;refine HA.out.mono ?_;clear HA;rintro e w1 ⟨rfl,rfl⟩)
  go_ret
  exact ⟨ag6 HE.out,rfl⟩
def aji:ByteArray:=⟨#[105,110,116]⟩
def afe:ByteArray:=⟨#[98,111,111,108,101,97,110]⟩
def tStr:ByteArray:=⟨#[83,116,114,105,110,103]⟩
def RS.typ (r:RS):RS:=if r.sees 0 aji=true then r.skip else if r.sees 0 afe=true then r.skip else if r.sees 0 tStr=true then r.skip else r.class
def RS.typV (r:RS):ByteArray:=if r.sees 0 aji=true then aji else if r.sees 0 afe=true then afe else if r.sees 0 tStr=true then tStr else r.classV
theorem akd {s:RS} {p:ByteArray} (h:s.sees 0 p=true):s.take p=s.skip:=by rw [RS.take,if_pos h]
theorem aii {s:RS} {p:ByteArray} (h:s.sees 0 p=false):s.take p=s:=by rw [RS.take,if_neg (by simp [h])]
@[go_sem] theorem index3_0 (a b d:Value) (w:World):(Instr.index 184 (.agg #[a,b,d]) (.int .i64 0)).run Tryz.prog w=.ok a w:=by kernel_rfl
@[go_sem] theorem index3_1 (a b d:Value) (w:World):(Instr.index 184 (.agg #[a,b,d]) (.int .i64 1)).run Tryz.prog w=.ok b w:=by kernel_rfl
@[go_sem] theorem index3_2 (a b d:Value) (w:World):(Instr.index 184 (.agg #[a,b,d]) (.int .i64 2)).run Tryz.prog w=.ok d w:=by kernel_rfl
theorem type_0 (W0 w:World) (c:Nat) (s:RS) (h:Rd W0 c s w) (h0:s.sees 0 aji=true):Calls Tryz.prog 123 #[.pointer (some ⟨c,0,none⟩)] w fun e w'=>e=.returned (.string s.typV)∧Mv W0 c s.typ w w':=by
 have HV:=ke (show s.typV=aji by simp [RS.typV,h0])
 have HE:=ke (show s.typ=s.skip by simp [RS.typ,h0])
 have T0:Hid (∀ w',Rd W0 c s w'→Calls Tryz.prog 73 #[.pointer (some ⟨c,0,none⟩),.string aji] w' fun e w''=>e=.returned (.bool true)∧Mv W0 c s.skip w' w''):=by
  show ∀ w',_
  intro w' h';have:=aca W0 w' c s aji h';rw [h0,akd h0] at this;exact this
 have HM0:=ke (Mv.refl h)
 clear h h0
 go_enter Tryz.func123,Tryz.ntmps123
 go_wp2
 go_loopw [6] (fun v6 wr=>∃ j:Nat,v6=.int .i64 j∧j≤0∧Mv W0 c s w wr) (fun v6 wr=>0 - (intOf v6).toNat)
 case atStart=>exact ⟨0,rfl,by omega,HM0.out⟩
 case round =>
  obtain ⟨j,rfl,hj,hm⟩:=hrel
  have HM:=ke hm
  clear hm HM0
  have hjs:j=0:=by omega
  rcases hjs with rfl
  ·go_wp2_with (go_at_call 73;refine (T0.out _ HM.out.2).mono ?_;rintro e w1 ⟨rfl,hm⟩;have HM1:=ke (HM.out.trans hm);clear hm)
   go_ret
   exact ⟨aek HV.out,by rw [HE.out];exact HM1.out⟩
theorem type_1 (W0 w:World) (c:Nat) (s:RS) (h:Rd W0 c s w) (h0:s.sees 0 aji=false) (h1:s.sees 0 afe=true):Calls Tryz.prog 123 #[.pointer (some ⟨c,0,none⟩)] w fun e w'=>e=.returned (.string s.typV)∧Mv W0 c s.typ w w':=by
 have HV:=ke (show s.typV=afe by simp [RS.typV,h0,h1])
 have HE:=ke (show s.typ=s.skip by simp [RS.typ,h0,h1])
 have T0:Hid (∀ w',Rd W0 c s w'→Calls Tryz.prog 73 #[.pointer (some ⟨c,0,none⟩),.string aji] w' fun e w''=>e=.returned (.bool false)∧Mv W0 c s w' w''):=by
  show ∀ w',_
  intro w' h';have:=aca W0 w' c s aji h';rw [h0,aii h0] at this;exact this
 have T1:Hid (∀ w',Rd W0 c s w'→Calls Tryz.prog 73 #[.pointer (some ⟨c,0,none⟩),.string afe] w' fun e w''=>e=.returned (.bool true)∧Mv W0 c s.skip w' w''):=by
  show ∀ w',_
  intro w' h';have:=aca W0 w' c s afe h';rw [h1,akd h1] at this;exact this
 have HM0:=ke (Mv.refl h)
 clear h h0 h1
 go_enter Tryz.func123,Tryz.ntmps123
 go_wp2
 go_loopw [6] (fun v6 wr=>∃ j:Nat,v6=.int .i64 j∧j≤1∧Mv W0 c s w wr) (fun v6 wr=>1 - (intOf v6).toNat)
 case atStart=>exact ⟨0,rfl,by omega,HM0.out⟩
 case round =>
  obtain ⟨j,rfl,hj,hm⟩:=hrel
  have HM:=ke hm
  clear hm HM0
  have hjs:j=0∨j=1:=by omega
  rcases hjs with rfl|rfl
  ·go_wp2_with (go_at_call 73;refine (T0.out _ HM.out.2).mono ?_;rintro e w1 ⟨rfl,hm⟩;have HM1:=ke (HM.out.trans hm);clear hm)
   go_roundw
   case rel=>exact ⟨1,by go_num,by omega,HM1.out⟩
   case measure=>simp [intOf];try omega
  ·go_wp2_with (go_at_call 73;refine (T1.out _ HM.out.2).mono ?_;rintro e w1 ⟨rfl,hm⟩;have HM1:=ke (HM.out.trans hm);clear hm)
   go_ret
   exact ⟨aek HV.out,by rw [HE.out];exact HM1.out⟩
theorem type_2 (W0 w:World) (c:Nat) (s:RS) (h:Rd W0 c s w) (h0:s.sees 0 aji=false) (h1:s.sees 0 afe=false) (h2:s.sees 0 tStr=true):Calls Tryz.prog 123 #[.pointer (some ⟨c,0,none⟩)] w fun e w'=>e=.returned (.string s.typV)∧Mv W0 c s.typ w w':=by
 have HV:=ke (show s.typV=tStr by simp [RS.typV,h0,h1,h2])
 have HE:=ke (show s.typ=s.skip by simp [RS.typ,h0,h1,h2])
 have T0:Hid (∀ w',Rd W0 c s w'→Calls Tryz.prog 73 #[.pointer (some ⟨c,0,none⟩),.string aji] w' fun e w''=>e=.returned (.bool false)∧Mv W0 c s w' w''):=by
  show ∀ w',_
  intro w' h';have:=aca W0 w' c s aji h';rw [h0,aii h0] at this;exact this
 have T1:Hid (∀ w',Rd W0 c s w'→Calls Tryz.prog 73 #[.pointer (some ⟨c,0,none⟩),.string afe] w' fun e w''=>e=.returned (.bool false)∧Mv W0 c s w' w''):=by
  show ∀ w',_
  intro w' h';have:=aca W0 w' c s afe h';rw [h1,aii h1] at this;exact this
 have T2:Hid (∀ w',Rd W0 c s w'→Calls Tryz.prog 73 #[.pointer (some ⟨c,0,none⟩),.string tStr] w' fun e w''=>e=.returned (.bool true)∧Mv W0 c s.skip w' w''):=by
  show ∀ w',_
  intro w' h';have:=aca W0 w' c s tStr h';rw [h2,akd h2] at this;exact this
 have HM0:=ke (Mv.refl h)
 clear h h0 h1 h2
 go_enter Tryz.func123,Tryz.ntmps123
 go_wp2
 go_loopw [6] (fun v6 wr=>∃ j:Nat,v6=.int .i64 j∧j≤2∧Mv W0 c s w wr) (fun v6 wr=>2 - (intOf v6).toNat)
 case atStart=>exact ⟨0,rfl,by omega,HM0.out⟩
 case round =>
  obtain ⟨j,rfl,hj,hm⟩:=hrel
  have HM:=ke hm
  clear hm HM0
  have hjs:j=0∨j=1∨j=2:=by omega
  rcases hjs with rfl|rfl|rfl
  ·go_wp2_with (go_at_call 73;refine (T0.out _ HM.out.2).mono ?_;rintro e w1 ⟨rfl,hm⟩;have HM1:=ke (HM.out.trans hm);clear hm)
   go_roundw
   case rel=>exact ⟨1,by go_num,by omega,HM1.out⟩
   case measure=>simp [intOf];try omega
  ·go_wp2_with (go_at_call 73;refine (T1.out _ HM.out.2).mono ?_;rintro e w1 ⟨rfl,hm⟩;have HM1:=ke (HM.out.trans hm);clear hm)
   go_roundw
   case rel=>exact ⟨2,by go_num,by omega,HM1.out⟩
   case measure=>simp [intOf];try omega
  ·go_wp2_with (go_at_call 73;refine (T2.out _ HM.out.2).mono ?_;rintro e w1 ⟨rfl,hm⟩;have HM1:=ke (HM.out.trans hm);clear hm)
   go_ret
   exact ⟨aek HV.out,by rw [HE.out];exact HM1.out⟩
theorem type_3 (W0 w:World) (c:Nat) (s:RS) (h:Rd W0 c s w) (h0:s.sees 0 aji=false) (h1:s.sees 0 afe=false) (h2:s.sees 0 tStr=false):Calls Tryz.prog 123 #[.pointer (some ⟨c,0,none⟩)] w fun e w'=>e=.returned (.string s.typV)∧Mv W0 c s.typ w w':=by
 have HV:=ke (show s.typV=s.classV by simp [RS.typV,h0,h1,h2])
 have HE:=ke (show s.typ=s.class by simp [RS.typ,h0,h1,h2])
 have T0:Hid (∀ w',Rd W0 c s w'→Calls Tryz.prog 73 #[.pointer (some ⟨c,0,none⟩),.string aji] w' fun e w''=>e=.returned (.bool false)∧Mv W0 c s w' w''):=by
  show ∀ w',_
  intro w' h';have:=aca W0 w' c s aji h';rw [h0,aii h0] at this;exact this
 have T1:Hid (∀ w',Rd W0 c s w'→Calls Tryz.prog 73 #[.pointer (some ⟨c,0,none⟩),.string afe] w' fun e w''=>e=.returned (.bool false)∧Mv W0 c s w' w''):=by
  show ∀ w',_
  intro w' h';have:=aca W0 w' c s afe h';rw [h1,aii h1] at this;exact this
 have T2:Hid (∀ w',Rd W0 c s w'→Calls Tryz.prog 73 #[.pointer (some ⟨c,0,none⟩),.string tStr] w' fun e w''=>e=.returned (.bool false)∧Mv W0 c s w' w''):=by
  show ∀ w',_
  intro w' h';have:=aca W0 w' c s tStr h';rw [h2,aii h2] at this;exact this
 have HC:Hid (∀ w',Rd W0 c s w'→Calls Tryz.prog 72 #[.pointer (some ⟨c,0,none⟩)] w' fun e w''=>e=.returned (.string s.classV)∧Mv W0 c s.class w' w''):=by
  show ∀ w',_
  intro w' h';exact acv W0 w' c s h'
 have HM0:=ke (Mv.refl h)
 clear h h0 h1 h2
 go_enter Tryz.func123,Tryz.ntmps123
 go_wp2
 go_loopw [6] (fun v6 wr=>∃ j:Nat,v6=.int .i64 j∧j≤3∧Mv W0 c s w wr) (fun v6 wr=>3 - (intOf v6).toNat)
 case atStart=>exact ⟨0,rfl,by omega,HM0.out⟩
 case round =>
  obtain ⟨j,rfl,hj,hm⟩:=hrel
  have HM:=ke hm
  clear hm HM0
  have hjs:j=0∨j=1∨j=2∨j=3:=by omega
  rcases hjs with rfl|rfl|rfl|rfl
  ·go_wp2_with (go_at_call 73;refine (T0.out _ HM.out.2).mono ?_;rintro e w1 ⟨rfl,hm⟩;have HM1:=ke (HM.out.trans hm);clear hm)
   go_roundw
   case rel=>exact ⟨1,by go_num,by omega,HM1.out⟩
   case measure=>simp [intOf];try omega
  ·go_wp2_with (go_at_call 73;refine (T1.out _ HM.out.2).mono ?_;rintro e w1 ⟨rfl,hm⟩;have HM1:=ke (HM.out.trans hm);clear hm)
   go_roundw
   case rel=>exact ⟨2,by go_num,by omega,HM1.out⟩
   case measure=>simp [intOf];try omega
  ·go_wp2_with (go_at_call 73;refine (T2.out _ HM.out.2).mono ?_;rintro e w1 ⟨rfl,hm⟩;have HM1:=ke (HM.out.trans hm);clear hm)
   go_roundw
   case rel=>exact ⟨3,by go_num,by omega,HM1.out⟩
   case measure=>simp [intOf];try omega
  ·go_wp2_with (go_at_call 72;refine (HC.out _ HM.out.2).mono ?_;rintro e w1 ⟨rfl,hm⟩;have HM1:=ke (HM.out.trans hm);clear hm)
   go_ret
   exact ⟨aek HV.out,by rw [HE.out];exact HM1.out⟩
theorem ahs (W0 w:World) (c:Nat) (s:RS) (h:Rd W0 c s w):Calls Tryz.prog 123 #[.pointer (some ⟨c,0,none⟩)] w fun e w'=>e=.returned (.string s.typV)∧Mv W0 c s.typ w w':=by
 cases h0:s.sees 0 aji with
 | true=>exact type_0 W0 w c s h h0
 | false =>
  cases h1:s.sees 0 afe with
  | true=>exact type_1 W0 w c s h h0 h1
  | false =>
   cases h2:s.sees 0 tStr with
   | true=>exact type_2 W0 w c s h h0 h1 h2
   | false=>exact type_3 W0 w c s h h0 h1 h2
end
section
open Go.RowKit
def bs (l:List UInt8):ByteArray:=⟨l.toArray⟩
def mkE (k n:Int) (tx nm ty:ByteArray) (l:List Nd):Nd:=.ex k n tx nm ty (.slice none 0 0) l ⟨#[]⟩ 0
def noE:Nd:=mkE 0 0 ⟨#[]⟩ ⟨#[]⟩ ⟨#[]⟩ []
def hdE (l:List Nd):Nd:=l.headD noE
def fxP:Option Pl→Option ByteArray
 | some (.fx t,_)=>some t
 | _=>none
def tightL (l:List UInt8):Int :=
 if l=[124,124] then 1 else if l=[38,38] then 2 else if l=[61,61]∨l=[33,61] then 3 else if l=[60]∨l=[60,61] then 4 else if l=[43]∨l=[45] then 5 else if l=[42]∨l=[47]∨l=[37]∨l=[64] then 6 else 0
def aat (t:ByteArray):Int:=tightL t.toList
def numO (t:ByteArray):Option Int:=match Lib.parseIntB 32 t.data.toList with
 | .ok v=>some v
 | _=>none
def RS.numT (s:RS) (most:Int) (t:ByteArray):RS:=match numO t with
 | some v=>if v≤most then s.skip else s.fail 5
 | none=>s.fail 5
def RS.numV (most:Int) (t:ByteArray):Int:=match numO t with
 | some v=>if v≤most then v else 0
 | none=>0
def nuP:Option Pl→Option ByteArray
 | some (.nu t,_)=>some t
 | _=>none
def RS.num (s:RS) (most:Int):RS:=match nuP s.ws[0]? with|some t=>s.numT most t|none=>s.fail 3
def RS.numR (s:RS) (most:Int):Int:=match nuP s.ws[0]? with|some t=>RS.numV most t|none=>0
inductive Md where
 | expr|joined (k:Int)|loopJ (k:Int) (e:Nd)|signed|followed|loopF (e:Nd)|atom|used (p c:Int) (ty:ByteArray) (l:List Nd)|args|listed|more (l:List Nd)|fixed
def abh:ByteArray:=⟨#[45]⟩
def aig:ByteArray:=⟨#[33]⟩
def aj5:ByteArray:=⟨#[35]⟩
def af5:ByteArray:=⟨#[46]⟩
def sAs:ByteArray:=⟨#[97,115]⟩
def sIs:ByteArray:=⟨#[105,115]⟩
def aah:ByteArray:=⟨#[40]⟩
def aa6:ByteArray:=⟨#[41]⟩
def aei:ByteArray:=⟨#[44]⟩
def ado:ByteArray:=⟨#[58,58]⟩
def acy:ByteArray:=⟨#[116,114,117,101]⟩
def abq:ByteArray:=⟨#[102,97,108,115,101]⟩
def adv:ByteArray:=⟨#[110,117,108,108]⟩
def aeh:ByteArray:=⟨#[116,104,105,115]⟩
def abp:ByteArray:=⟨#[115,117,112,101,114]⟩
def sNew:ByteArray:=⟨#[110,101,119]⟩
def acz (s:RS):Option ByteArray:=if s.sees 0 abh=true then some abh else if s.sees 0 aig=true then some aig else if s.sees 0 aj5=true then some aj5 else none
def E0:ByteArray:=⟨#[]⟩
def run:Nat→Md→RS→List Nd×RS
 | 0,_,s=>([],s)
 | n+1,.expr,s=>run n (.joined 1) s
 | n+1,.joined k,s=>let r:=run n .signed s;run n (.loopJ k (hdE r.1)) r.2
 | n+1,.loopJ k e,s=>match fxP s.ws[0]? with
  | some t=>if k≤aat t then let r:=run n (.joined (aat t+1)) s.skip;run n (.loopJ k (mkE 17 0 E0 t E0 [e,hdE r.1])) r.2 else ([e],s)
  | none=>([e],s)
 | n+1,.signed,s=>match acz s with
  | some t=>let r:=run n .signed (s.enter t);([mkE 18 0 E0 t E0 [hdE r.1]],r.2.dec)
  | none=>run n .followed s
 | n+1,.followed,s=>let r:=run n .atom s;run n (.loopF (hdE r.1)) r.2
 | n+1,.loopF e,s =>
  if s.sees 0 af5=true then let r:=run n (.used 7 10 E0 [e]) s.skip;run n (.loopF (hdE r.1)) r.2
  else if s.sees 0 sAs=true then run n (.loopF (mkE 15 0 E0 E0 s.skip.classV [e])) s.skip.class
  else if s.sees 0 sIs=true then run n (.loopF (mkE 16 0 E0 E0 s.skip.classV [e])) s.skip.class
  else ([e],s)
 | n+1,.used p c ty l,s=>let s1:=s.name;if s1.sees 0 aah=true then let r:=run n .args s1;([mkE c 0 E0 s.nameV ty (l ++ r.1)],r.2) else ([mkE p 0 E0 s.nameV ty l],s1)
 | n+1,.args,s=>let r:=run n .listed (s.enter aah);(r.1,r.2.leave aa6)
 | n+1,.listed,s=>if s.sees 0 aa6=true then ([],s) else let r:=run n .expr s;run n (.more [hdE r.1]) r.2
 | n+1,.more l,s=>if s.sees 0 aei=true then let r:=run n .expr s.skip;run n (.more (l ++ [hdE r.1])) r.2 else (l,s)
 | n+1,.atom,s=>match s.ws[0]? with
  | some (Pr.nu _,_)=>([mkE 1 (s.numR 2147483647) E0 E0 E0 []],s.num 2147483647)
  | some (Pr.qu t,_)=>([mkE 3 0 t E0 E0 []],s.skip)
  | some (Pr.nm _,_)=>run n (.used 6 11 E0 []) s
  | some (Pr.cl _,_)=>run n (.used 9 13 s.classV []) (s.class.need ado)
  | _=>run n .fixed s
 | n+1,.fixed,s =>
  if s.sees 0 acy=true then ([mkE 2 1 E0 E0 E0 []],s.skip) else if s.sees 0 abq=true then ([mkE 2 0 E0 E0 E0 []],s.skip) else if s.sees 0 adv=true then ([mkE 4 0 E0 E0 E0 []],s.skip) else if s.sees 0 aeh=true then ([mkE 5 0 E0 E0 E0 []],s.skip)
  else if s.sees 0 abp=true then run n (.used 8 12 E0 []) (s.skip.need af5)
  else if s.sees 0 sNew=true then let r:=run n .args s.skip.class;([mkE 14 0 E0 E0 s.skip.classV r.1],r.2)
  else if s.sees 0 aah=true then let r:=run n .expr (s.enter aah);([hdE r.1],r.2.leave aa6)
  else ([noE],s.fail 3)
def RS.len (s:RS):Nat:=s.ws.length
theorem aaf (s:RS):s.skip.len≤s.len - 1:=by simp [RS.len,RS.skip]
theorem agu (s:RS) (k:Int):(s.fail k).len=0:=by unfold RS.fail RS.len;split<;>rfl
theorem aan (s:RS) (p:ByteArray):(s.need p).len≤s.len - 1:=by
 unfold RS.need;split
 ·exact aaf s
 ·rw [agu];omega
theorem len_inc (s:RS):s.inc.len=s.len:=rfl
theorem len_dec (s:RS):s.dec.len=s.len:=rfl
theorem aa4 (s:RS) (p:ByteArray):(s.enter p).len≤s.len - 1:=by
 unfold RS.enter
 rw [len_inc]
 refine Nat.le_trans (aan _ _) ?_
 split
 ·rw [agu];omega
 ·exact Nat.le_refl _
theorem agi (s:RS) (p:ByteArray):(s.leave p).len≤s.len - 1:=by unfold RS.leave;rw [len_dec];exact aan s p
theorem len_called (s:RS) (t:ByteArray) (is:Bool):(s.called t is).len≤s.len - 1:=by
 unfold RS.called
 split
 ·split
  ·rw [agu];omega
  ·exact aaf s
 ·rw [agu];omega
theorem abg (s:RS):s.name.len≤s.len - 1:=by unfold RS.name RS.byO;split<;>exact len_called _ _ _
theorem aaz (s:RS):s.class.len≤s.len - 1:=by unfold RS.class RS.byO;split<;>exact len_called _ _ _
theorem len_num (s:RS) (m:Int):(s.num m).len≤s.len - 1:=by
 unfold RS.num RS.numT
 repeat' split
 all_goals first|exact aaf s|(rw [agu];omega)
theorem abm:∀ (n:Nat) (m:Md) (s:RS),(run n m s).2.len≤s.len:=by
 intro n
 induction n with
 | zero=>intro m s;exact Nat.le_refl _
 | succ n ih =>
  intro m s
  cases m with
  | expr=>exact ih _ _
  | joined k=>exact Nat.le_trans (ih _ _) (ih _ _)
  | loopJ k e =>
   simp only [run]
   split
   ·split
    ·have:=aaf s;exact Nat.le_trans (ih _ _) (Nat.le_trans (ih _ _) (by omega))
    ·exact Nat.le_refl _
   ·exact Nat.le_refl _
  | signed =>
   simp only [run]
   split
   ·rename_i t _
    rw [len_dec];have:=aa4 s t;exact Nat.le_trans (ih _ _) (by omega)
   ·exact ih _ _
  | followed=>exact Nat.le_trans (ih _ _) (ih _ _)
  | loopF e =>
   simp only [run]
   have h1:=aaf s
   have h2:=aaz s.skip
   split
   ·exact Nat.le_trans (ih _ _) (Nat.le_trans (ih _ _) (by omega))
   ·split
    ·exact Nat.le_trans (ih _ _) (by omega)
    ·split
     ·exact Nat.le_trans (ih _ _) (by omega)
     ·exact Nat.le_refl _
  | used p c ty l =>
   simp only [run]
   have h1:=abg s
   split
   ·exact Nat.le_trans (ih _ _) (by omega)
   ·show s.name.len≤_;omega
  | args =>
   simp only [run]
   have h1:=aa4 s aah
   have h2:=ih .listed (s.enter aah)
   have h3:=agi (run n .listed (s.enter aah)).2 aa6
   omega
  | listed =>
   simp only [run]
   split
   ·exact Nat.le_refl _
   ·exact Nat.le_trans (ih _ _) (ih _ _)
  | more l =>
   simp only [run]
   have h1:=aaf s
   split
   ·exact Nat.le_trans (ih _ _) (Nat.le_trans (ih _ _) (by omega))
   ·exact Nat.le_refl _
  | atom =>
   simp only [run]
   have h1:=aaf s
   have h2:=aaz s
   have h3:=aan s.class ado
   have h4:=len_num s 2147483647
   split
   ·show (s.num 2147483647).len≤_;omega
   ·show s.skip.len≤_;omega
   ·exact ih _ _
   ·exact Nat.le_trans (ih _ _) (by omega)
   ·exact ih _ _
  | fixed =>
   simp only [run]
   have h1:=aaf s
   have h2:=aaz s.skip
   have h3:=aan s.skip af5
   have h4:=aa4 s aah
   repeat' split
   all_goals first
    | (show s.skip.len≤_;omega)
    | exact Nat.le_trans (ih _ _) (by omega)
    | (have h5:=ih .expr (s.enter aah);have h6:=agi (run n .expr (s.enter aah)).2 aa6;show (RS.leave _ _).len≤_;omega)
    | (show (s.fail 3).len≤_;rw [agu];omega)
def Md.rank:Md→Nat
 | .expr=>9|.joined _=>8|.loopJ ..=>1|.signed=>6|.followed=>5|.loopF _=>1|.atom=>3|.used ..=>1|.args=>12|.listed=>10|.more _=>1|.fixed=>2
def aaj (n:Nat) (m:Md) (s:RS):Prop:=14 * s.len+m.rank≤n
end
section
open Go.RowKit
theorem tight_0 (w:World) (s:ByteArray) (h0:(s.toList == [124,124])=true):Calls Tryz.prog 104 #[.string s] w fun e w'=>e=.returned (.int .i64 1)∧w=w':=by
 go_enter Tryz.func104,Tryz.ntmps104
 go_wp2
 go_ret
 exact ⟨rfl,rfl⟩
theorem tight_1 (w:World) (s:ByteArray) (h0:(s.toList == [124,124])=false) (h1:(s.toList == [38,38])=true):Calls Tryz.prog 104 #[.string s] w fun e w'=>e=.returned (.int .i64 2)∧w=w':=by
 go_enter Tryz.func104,Tryz.ntmps104
 go_wp2
 go_ret
 exact ⟨rfl,rfl⟩
theorem tight_2 (w:World) (s:ByteArray) (h0:(s.toList == [124,124])=false) (h1:(s.toList == [38,38])=false) (h2:(s.toList == [61,61])=true):Calls Tryz.prog 104 #[.string s] w fun e w'=>e=.returned (.int .i64 3)∧w=w':=by
 go_enter Tryz.func104,Tryz.ntmps104
 go_wp2
 go_ret
 exact ⟨rfl,rfl⟩
theorem tight_3 (w:World) (s:ByteArray) (h0:(s.toList == [124,124])=false) (h1:(s.toList == [38,38])=false) (h2:(s.toList == [61,61])=false) (h3:(s.toList == [33,61])=true):Calls Tryz.prog 104 #[.string s] w fun e w'=>e=.returned (.int .i64 3)∧w=w':=by
 go_enter Tryz.func104,Tryz.ntmps104
 go_wp2
 go_ret
 exact ⟨rfl,rfl⟩
theorem tight_4 (w:World) (s:ByteArray) (h0:(s.toList == [124,124])=false) (h1:(s.toList == [38,38])=false) (h2:(s.toList == [61,61])=false) (h3:(s.toList == [33,61])=false) (h4:(s.toList == [60])=true):Calls Tryz.prog 104 #[.string s] w fun e w'=>e=.returned (.int .i64 4)∧w=w':=by
 go_enter Tryz.func104,Tryz.ntmps104
 go_wp2
 go_ret
 exact ⟨rfl,rfl⟩
theorem tight_5 (w:World) (s:ByteArray) (h0:(s.toList == [124,124])=false) (h1:(s.toList == [38,38])=false) (h2:(s.toList == [61,61])=false) (h3:(s.toList == [33,61])=false) (h4:(s.toList == [60])=false) (h5:(s.toList == [60,61])=true):Calls Tryz.prog 104 #[.string s] w fun e w'=>e=.returned (.int .i64 4)∧w=w':=by
 go_enter Tryz.func104,Tryz.ntmps104
 go_wp2
 go_ret
 exact ⟨rfl,rfl⟩
theorem tight_6 (w:World) (s:ByteArray) (h0:(s.toList == [124,124])=false) (h1:(s.toList == [38,38])=false) (h2:(s.toList == [61,61])=false) (h3:(s.toList == [33,61])=false) (h4:(s.toList == [60])=false) (h5:(s.toList == [60,61])=false) (h6:(s.toList == [43])=true):Calls Tryz.prog 104 #[.string s] w fun e w'=>e=.returned (.int .i64 5)∧w=w':=by
 go_enter Tryz.func104,Tryz.ntmps104
 go_wp2
 go_ret
 exact ⟨rfl,rfl⟩
theorem tight_7 (w:World) (s:ByteArray) (h0:(s.toList == [124,124])=false) (h1:(s.toList == [38,38])=false) (h2:(s.toList == [61,61])=false) (h3:(s.toList == [33,61])=false) (h4:(s.toList == [60])=false) (h5:(s.toList == [60,61])=false) (h6:(s.toList == [43])=false) (h7:(s.toList == [45])=true):Calls Tryz.prog 104 #[.string s] w fun e w'=>e=.returned (.int .i64 5)∧w=w':=by
 go_enter Tryz.func104,Tryz.ntmps104
 go_wp2
 go_ret
 exact ⟨rfl,rfl⟩
theorem tight_8 (w:World) (s:ByteArray) (h0:(s.toList == [124,124])=false) (h1:(s.toList == [38,38])=false) (h2:(s.toList == [61,61])=false) (h3:(s.toList == [33,61])=false) (h4:(s.toList == [60])=false) (h5:(s.toList == [60,61])=false) (h6:(s.toList == [43])=false) (h7:(s.toList == [45])=false) (h8:(s.toList == [42])=true):Calls Tryz.prog 104 #[.string s] w fun e w'=>e=.returned (.int .i64 6)∧w=w':=by
 go_enter Tryz.func104,Tryz.ntmps104
 go_wp2
 go_ret
 exact ⟨rfl,rfl⟩
theorem tight_9 (w:World) (s:ByteArray) (h0:(s.toList == [124,124])=false) (h1:(s.toList == [38,38])=false) (h2:(s.toList == [61,61])=false) (h3:(s.toList == [33,61])=false) (h4:(s.toList == [60])=false) (h5:(s.toList == [60,61])=false) (h6:(s.toList == [43])=false) (h7:(s.toList == [45])=false) (h8:(s.toList == [42])=false) (h9:(s.toList == [47])=true):Calls Tryz.prog 104 #[.string s] w fun e w'=>e=.returned (.int .i64 6)∧w=w':=by
 go_enter Tryz.func104,Tryz.ntmps104
 go_wp2
 go_ret
 exact ⟨rfl,rfl⟩
theorem tight_10 (w:World) (s:ByteArray) (h0:(s.toList == [124,124])=false) (h1:(s.toList == [38,38])=false) (h2:(s.toList == [61,61])=false) (h3:(s.toList == [33,61])=false) (h4:(s.toList == [60])=false) (h5:(s.toList == [60,61])=false) (h6:(s.toList == [43])=false) (h7:(s.toList == [45])=false) (h8:(s.toList == [42])=false) (h9:(s.toList == [47])=false) (h10:(s.toList == [37])=true):Calls Tryz.prog 104 #[.string s] w fun e w'=>e=.returned (.int .i64 6)∧w=w':=by
 go_enter Tryz.func104,Tryz.ntmps104
 go_wp2
 go_ret
 exact ⟨rfl,rfl⟩
theorem tight_11 (w:World) (s:ByteArray) (h0:(s.toList == [124,124])=false) (h1:(s.toList == [38,38])=false) (h2:(s.toList == [61,61])=false) (h3:(s.toList == [33,61])=false) (h4:(s.toList == [60])=false) (h5:(s.toList == [60,61])=false) (h6:(s.toList == [43])=false) (h7:(s.toList == [45])=false) (h8:(s.toList == [42])=false) (h9:(s.toList == [47])=false) (h10:(s.toList == [37])=false) (h11:(s.toList == [64])=true):Calls Tryz.prog 104 #[.string s] w fun e w'=>e=.returned (.int .i64 6)∧w=w':=by
 go_enter Tryz.func104,Tryz.ntmps104
 go_wp2
 go_ret
 exact ⟨rfl,rfl⟩
theorem tight_12 (w:World) (s:ByteArray) (h0:(s.toList == [124,124])=false) (h1:(s.toList == [38,38])=false) (h2:(s.toList == [61,61])=false) (h3:(s.toList == [33,61])=false) (h4:(s.toList == [60])=false) (h5:(s.toList == [60,61])=false) (h6:(s.toList == [43])=false) (h7:(s.toList == [45])=false) (h8:(s.toList == [42])=false) (h9:(s.toList == [47])=false) (h10:(s.toList == [37])=false) (h11:(s.toList == [64])=false):Calls Tryz.prog 104 #[.string s] w fun e w'=>e=.returned (.int .i64 0)∧w=w':=by
 go_enter Tryz.func104,Tryz.ntmps104
 go_wp2
 go_ret
 exact ⟨rfl,rfl⟩
theorem tight_any (w:World) (s:ByteArray):Calls Tryz.prog 104 #[.string s] w fun e w'=>e=.returned (.int .i64 (aat s))∧w=w':=by
 cases h0:(s.toList == [124,124]) with
 | true =>
  have e:aat s=1:=by
   have g:s.toList=[124,124]:=by simpa using h0
   unfold aat;rw [g];rfl
  rw [e];exact tight_0 w s h0
 | false =>
  cases h1:(s.toList == [38,38]) with
  | true =>
   have e:aat s=2:=by
    have g:s.toList=[38,38]:=by simpa using h1
    unfold aat;rw [g];rfl
   rw [e];exact tight_1 w s h0 h1
  | false =>
   cases h2:(s.toList == [61,61]) with
   | true =>
    have e:aat s=3:=by
     have g:s.toList=[61,61]:=by simpa using h2
     unfold aat;rw [g];rfl
    rw [e];exact tight_2 w s h0 h1 h2
   | false =>
    cases h3:(s.toList == [33,61]) with
    | true =>
     have e:aat s=3:=by
      have g:s.toList=[33,61]:=by simpa using h3
      unfold aat;rw [g];rfl
     rw [e];exact tight_3 w s h0 h1 h2 h3
    | false =>
     cases h4:(s.toList == [60]) with
     | true =>
      have e:aat s=4:=by
       have g:s.toList=[60]:=by simpa using h4
       unfold aat;rw [g];rfl
      rw [e];exact tight_4 w s h0 h1 h2 h3 h4
     | false =>
      cases h5:(s.toList == [60,61]) with
      | true =>
       have e:aat s=4:=by
        have g:s.toList=[60,61]:=by simpa using h5
        unfold aat;rw [g];rfl
       rw [e];exact tight_5 w s h0 h1 h2 h3 h4 h5
      | false =>
       cases h6:(s.toList == [43]) with
       | true =>
        have e:aat s=5:=by
         have g:s.toList=[43]:=by simpa using h6
         unfold aat;rw [g];rfl
        rw [e];exact tight_6 w s h0 h1 h2 h3 h4 h5 h6
       | false =>
        cases h7:(s.toList == [45]) with
        | true =>
         have e:aat s=5:=by
          have g:s.toList=[45]:=by simpa using h7
          unfold aat;rw [g];rfl
         rw [e];exact tight_7 w s h0 h1 h2 h3 h4 h5 h6 h7
        | false =>
         cases h8:(s.toList == [42]) with
         | true =>
          have e:aat s=6:=by
           have g:s.toList=[42]:=by simpa using h8
           unfold aat;rw [g];rfl
          rw [e];exact tight_8 w s h0 h1 h2 h3 h4 h5 h6 h7 h8
         | false =>
          cases h9:(s.toList == [47]) with
          | true =>
           have e:aat s=6:=by
            have g:s.toList=[47]:=by simpa using h9
            unfold aat;rw [g];rfl
           rw [e];exact tight_9 w s h0 h1 h2 h3 h4 h5 h6 h7 h8 h9
          | false =>
           cases h10:(s.toList == [37]) with
           | true =>
            have e:aat s=6:=by
             have g:s.toList=[37]:=by simpa using h10
             unfold aat;rw [g];rfl
            rw [e];exact tight_10 w s h0 h1 h2 h3 h4 h5 h6 h7 h8 h9 h10
           | false =>
            cases h11:(s.toList == [64]) with
            | true =>
             have e:aat s=6:=by
              have g:s.toList=[64]:=by simpa using h11
              unfold aat;rw [g];rfl
             rw [e];exact tight_11 w s h0 h1 h2 h3 h4 h5 h6 h7 h8 h9 h10 h11
            | false =>
             have e:aat s=0:=by
              have g0:s.toList≠[124,124]:=by simpa using h0
              have g1:s.toList≠[38,38]:=by simpa using h1
              have g2:s.toList≠[61,61]:=by simpa using h2
              have g3:s.toList≠[33,61]:=by simpa using h3
              have g4:s.toList≠[60]:=by simpa using h4
              have g5:s.toList≠[60,61]:=by simpa using h5
              have g6:s.toList≠[43]:=by simpa using h6
              have g7:s.toList≠[45]:=by simpa using h7
              have g8:s.toList≠[42]:=by simpa using h8
              have g9:s.toList≠[47]:=by simpa using h9
              have g10:s.toList≠[37]:=by simpa using h10
              have g11:s.toList≠[64]:=by simpa using h11
              unfold aat tightL;simp [g0,g1,g2,g3,g4,g5,g6,g7,g8,g9,g10,g11]
             rw [e];exact tight_12 w s h0 h1 h2 h3 h4 h5 h6 h7 h8 h9 h10 h11
end
section
open Go.RowKit
def ExK (B:Nat) (r:Option Nat) (w:World) (x y:Nd):Prop :=
 ∃ (k n:Int) (tx nm ty:ByteArray) (A:Option Addr) (cap:Nat) (l:List Nd),y=.ex k n tx nm ty (.slice A l.length cap) l ⟨#[]⟩ 0∧(tx.size≤maxLen∧nm.size≤maxLen∧ty.size≤maxLen) ∧
  (∀ ws,(∀ k j u,B≤k→some k≠r→w.cell? ⟨k,j,none⟩=some u→ws.cell? ⟨k,j,none⟩=some u)→Rw ws .ex (.slice A l.length cap) l∧KdL ws l)∧aaq y=aaq x
theorem ExK.free {B:Nat} {r:Option Nat} {w:World} {x y:Nd} (h:ExK B r w x y):ExK B none w x y:=by
 obtain ⟨k,n,tx,nm,ty,A,cap,l,e,hs,hf,hb⟩:=h
 exact ⟨k,n,tx,nm,ty,A,cap,l,e,hs,fun ws hk=>hf ws fun k j u hB _ hu=>hk k j u hB (by simp) hu,hb⟩
theorem ExK.mono {B C:Nat} {r:Option Nat} {w:World} {x y:Nd} (h:ExK B r w x y) (hC:C≤B):ExK C r w x y:=by
 obtain ⟨k,n,tx,nm,ty,A,cap,l,e,hs,hf,hb⟩:=h
 exact ⟨k,n,tx,nm,ty,A,cap,l,e,hs,fun ws hk=>hf ws fun k j u hB hr hu=>hk k j u (Nat.le_trans hC hB) hr hu,hb⟩
theorem ExK.next {B:Nat} {r:Option Nat} {w w':World} {x y:Nd} (h:ExK B r w x y) (hw:∀ k j u,B≤k→some k≠r→w.cell? ⟨k,j,none⟩=some u→w'.cell? ⟨k,j,none⟩=some u):ExK B r w' x y:=by
 obtain ⟨k,n,tx,nm,ty,A,cap,l,e,hs,hf,hb⟩:=h
 exact ⟨k,n,tx,nm,ty,A,cap,l,e,hs,fun ws hk=>hf ws fun k j u hB hr hu=>hk k j u hB hr (hw k j u hB hr hu),hb⟩
theorem ExK.grown {B g:Nat} {r:Option Nat} {w w':World} {x y:Nd} (h:ExK B r w x y) (hg:w.grownBy w' (some g)) (hB:g < B∨r=some g):ExK B r w' x y :=
 h.next fun k j u hk hr hu=>(World.cell?_of_block (a:=⟨k,j,none⟩) (hg.block k (World.block_lt_of_cell? w (a:=⟨k,j,none⟩) hu) (by
  intro e
  rcases hB with h|h
  ·injection e with e;omega
  ·exact hr (e.trans h.symm)))).trans hu
theorem ExK.below {B:Nat} {r:Option Nat} {w w':World} {x y:Nd} (h:ExK B r w x y) (hb:Below w.heap.size w w'):ExK B r w' x y:=h.next fun k j u _ _ hu=>Keep.below hb _ _ hu
theorem ExK.excl {B g:Nat} {w w':World} {x y:Nd} (h:ExK B none w x y) (hb:Below w.heap.size w w') (hg:w.heap.size≤g):ExK B (some g) w' x y:=by
 obtain ⟨k,n,tx,nm,ty,A,cap,l,e,hs,hf,hb'⟩:=h
 refine ⟨k,n,tx,nm,ty,A,cap,l,e,hs,fun ws hk=>hf ws fun k j u hB _ hu=>?_,hb'⟩
 have hlt:=World.block_lt_of_cell? w (a:=⟨k,j,none⟩) hu
 simp only at hlt
 exact hk k j u hB (by simp;omega) (Keep.below hb _ _ hu)
theorem Mv.over {W0 w W1 w2 w3:World} {c b:Nat} {s:RS} (hW:Below w.heap.size w W1) (h:Mv W0 c s W1 w2) (hg:w2.grownBy w3 (some b)) (hb:w.heap.size≤b) (hc:c < w.heap.size) (hle:W0.heap.size≤w.heap.size:=by assumption):Mv W0 c s w w3:=by
 obtain ⟨h1,h2,h3,v,hv,hx⟩:=h
 refine ⟨⟨hg.os.trans (h1.os.trans hW.os),hg.tape.trans (h1.tape.trans hW.tape),hg.output.trans (h1.output.trans hW.output),Nat.le_trans hW.size (Nat.le_trans h1.size hg.size),fun k hk hne=>?_⟩,h2.grown hg h2.size (by rintro i ⟨rfl⟩;omega),h3,v,hv,?_⟩
 ·have a1:k < W1.heap.size:=Nat.lt_of_lt_of_le hk hW.size
  exact (hg.block k (Nat.lt_of_lt_of_le a1 h1.size) (by simp;omega)).trans ((h1.block k a1 hne).trans (hW.block k hk))
 ·exact (hg.block c hx.lt (by simp;omega)).trans hx
theorem Rd.lt {W0 w:World} {c:Nat} {s:RS} (h:Rd W0 c s w):c < w.heap.size:=by obtain ⟨_,_,v,_,hx⟩:=h;exact hx.lt
theorem Rd.below {W0 w w':World} {c:Nat} {s:RS} (h:Rd W0 c s w) (hb:Below w.heap.size w w'):Rd W0 c s w':=(Mv.below hb h).2
theorem aaw (w:World) (b:Nat) (u0 u1 u2 u3 u4 u5 u6 u7:Value):w.grownBy ((((((((w.setCell ⟨b,0,none⟩ u0).setCell ⟨b,1,none⟩ u1).setCell ⟨b,2,none⟩ u2).setCell ⟨b,3,none⟩ u3).setCell ⟨b,4,none⟩ u4).setCell ⟨b,5,none⟩ u5).setCell ⟨b,6,none⟩ u6).setCell ⟨b,7,none⟩ u7) (some b) :=
 ((((((((aac w b 0 u0).trans (aac _ b 1 u1)).trans (aac _ b 2 u2)).trans (aac _ b 3 u3)).trans (aac _ b 4 u4)).trans (aac _ b 5 u5)).trans (aac _ b 6 u6)).trans (aac _ b 7 u7))
theorem Bx.to_8 {w:World} {b:Nat} {T:TypeId} {x0 x1 x2 x3 x4 x5 x6 x7:Value} (h:Bx w b #[x0,x1,x2,x3,x4,x5,x6,x7] T) (u0 u1 u2 u3 u4 u5 u6 u7:Value):Bx ((((((((w.setCell ⟨b,0,none⟩ u0).setCell ⟨b,1,none⟩ u1).setCell ⟨b,2,none⟩ u2).setCell ⟨b,3,none⟩ u3).setCell ⟨b,4,none⟩ u4).setCell ⟨b,5,none⟩ u5).setCell ⟨b,6,none⟩ u6).setCell ⟨b,7,none⟩ u7) b #[u0,u1,u2,u3,u4,u5,u6,u7] T:=by
 have:=((((((((h.set 0 u0).set 1 u1).set 2 u2).set 3 u3).set 4 u4).set 5 u5).set 6 u6).set 7 u7)
 simpa using this
theorem Bx.all_8 {w:World} {b:Nat} {T:TypeId} {x0 x1 x2 x3 x4 x5 x6 x7:Value} (h:Bx w b #[x0,x1,x2,x3,x4,x5,x6,x7] T):w.cell? ⟨b,0,none⟩=some x0∧w.cell? ⟨b,1,none⟩=some x1∧w.cell? ⟨b,2,none⟩=some x2∧w.cell? ⟨b,3,none⟩=some x3∧w.cell? ⟨b,4,none⟩=some x4∧w.cell? ⟨b,5,none⟩=some x5∧w.cell? ⟨b,6,none⟩=some x6∧w.cell? ⟨b,7,none⟩=some x7 :=
 ⟨h.cell 0,h.cell 1,h.cell 2,h.cell 3,h.cell 4,h.cell 5,h.cell 6,h.cell 7⟩
def ExC (W0:World) (c:Nat) (w:World) (r:List Nd×RS) (e:Ending) (w':World):Prop:=∃ y,e=.returned (.agg (aab y).toArray)∧ExK w.heap.size none w' (hdE r.1) y∧Mv W0 c r.2 w w'
def Vars (w:World):Prop:=(∃ ev,w.cell? ⟨0,0,none⟩=some ev∧(ev=.nilIface∨∃ te pe,ev=.iface te pe))∧(∃ ev,w.cell? ⟨1,0,none⟩=some ev∧(ev=.nilIface∨∃ te pe,ev=.iface te pe))
theorem Vars.keep {w w':World} (K:Keep w w') (h:Vars w):Vars w':=by
 obtain ⟨⟨a,h1,h2⟩,b,h3,h4⟩:=h
 exact ⟨⟨a,K _ _ h1,h2⟩,b,K _ _ h3,h4⟩
def SpecJ (n:Nat):Prop:=∀ (W0 w:World) (c:Nat) (s:RS) (k:Int),Vars W0→Rd W0 c s w→1≤k→k≤7→aaj n (.joined k) s→Calls Tryz.prog 62 #[.pointer (some ⟨c,0,none⟩),.int .i64 k] w (ExC W0 c w (run n (.joined k) s))
def SpecE (n:Nat):Prop:=∀ (W0 w:World) (c:Nat) (s:RS),Vars W0→Rd W0 c s w→aaj n .expr s→Calls Tryz.prog 31 #[.pointer (some ⟨c,0,none⟩)] w (ExC W0 c w (run n .expr s))
theorem expr_of (n:Nat) (IH:SpecJ n):SpecE (n+1):=by
 intro W0 w c s hv h hn
 obtain ⟨r,hr⟩:∃ r,run (n+1) .expr s=r:=⟨_,rfl⟩
 have hr':run n (.joined 1) s=r:=hr
 have hen:aaj n (.joined 1) s:=by simp only [aaj,Md.rank] at hn ⊢;omega
 have hlt:=h.lt
 have hle0:=h.le
 obtain ⟨W1,hW1⟩:∃ W1,w.alloc (.cells #[.int .i64 0,.int .i32 0,.string ⟨#[]⟩,.string ⟨#[]⟩,.string ⟨#[]⟩,.slice none 0 0,.string ⟨#[]⟩,.int .i64 0] 35)=W1:=⟨_,rfl⟩
 have hb:Below w.heap.size w W1:=by rw [← hW1];exact (Below.refl _ w).alloc (Nat.le_refl _) _
 have hx:Bx W1 w.heap.size #[.int .i64 0,.int .i32 0,.string ⟨#[]⟩,.string ⟨#[]⟩,.string ⟨#[]⟩,.slice none 0 0,.string ⟨#[]⟩,.int .i64 0] 35:=by rw [← hW1];exact Bx.new _ _ _
 have hz:W1.heap.size=w.heap.size+1:=by rw [← hW1];simp
 have HC:=ke (IH W0 W1 c s 1 hv (h.below hb) (by omega) (by omega) hen)
 rw [hr'] at HC
 rw [hr]
 clear hr hr' IH h hn hen hv
 go_enter Tryz.func31,Tryz.ntmps31
 go_wp2_with fail
 clear hW1
 refine HC.out.mono ?_
 clear HC
 rintro e w2 ⟨y,rfl,hk,hm⟩
 obtain ⟨k,m,tx,nm,ty,A,cap,l,rfl,hs,hf,hbb⟩:=hk
 have HK:Hid (ExK W1.heap.size none w2 (hdE r.1) (.ex k m tx nm ty (.slice A l.length cap) l ⟨#[]⟩ 0)):=⟨k,m,tx,nm,ty,A,cap,l,rfl,hs,hf,hbb⟩
 have hx2:Bx w2 w.heap.size _ _:=(hm.1.block _ hx.lt (by simp;omega)).trans hx
 obtain ⟨r0,r1,r2,r3,r4,r5,r6,r7⟩:=hx2.all_8
 have g0:=hx2.fro 0;have g1:=hx2.fro 1;have g2:=hx2.fro 2;have g3:=hx2.fro 3;have g4:=hx2.fro 4;have g5:=hx2.fro 5;have g6:=hx2.fro 6;have g7:=hx2.fro 7
 have hg:=aaw w2 w.heap.size (.int .i64 k) (.int .i32 m) (.string tx) (.string nm) (.string ty) (.slice A l.length cap) (.string ⟨#[]⟩) (.int .i64 0)
 have HM:=ke (Mv.over hb hm hg (Nat.le_refl _) hlt)
 have HK2:=ke ((HK.out.grown hg (.inl (by omega))).mono (show w.heap.size≤W1.heap.size by omega))
 have HX:=ke hx2
 simp only [aab]
 clear hf hs hbb hm hx2 hg HK hx hb
 go_wp2_with fail
 obtain ⟨z0,z1,z2,z3,z4,z5,z6,z7⟩:=(HX.out.to_8 (.int .i64 k) (.int .i32 m) (.string tx) (.string nm) (.string ty) (.slice A l.length cap) (.string ⟨#[]⟩) (.int .i64 0)).all_8
 refine bodyPost_ret (v:=.agg #[.int .i64 k,.int .i32 m,.string tx,.string nm,.string ty,.slice A l.length cap,.string ⟨#[]⟩,.int .i64 0]) (by simp [results,Tryz.results31,go_sem,z0,z1,z2,z3,z4,z5,z6,z7]) rfl ?_
 exact ⟨_,rfl,HK2.out,HM.out⟩
end
section
open Go.RowKit
theorem grown_1 (w:World) (b:Nat) (u0:Value):w.grownBy (w.setCell ⟨b,0,none⟩ u0) (some b):=aac w b 0 u0
theorem Bx.to_1 {w:World} {b:Nat} {T:TypeId} {x0:Value} (h:Bx w b #[x0] T) (u0:Value):Bx (w.setCell ⟨b,0,none⟩ u0) b #[u0] T:=by
 have:=(h.set 0 u0)
 simpa using this
theorem Bx.all_1 {w:World} {b:Nat} {T:TypeId} {x0:Value} (h:Bx w b #[x0] T):w.cell? ⟨b,0,none⟩=some x0:=h.cell 0
theorem grown_2 (w:World) (b:Nat) (u0 u1:Value):w.grownBy ((w.setCell ⟨b,0,none⟩ u0).setCell ⟨b,1,none⟩ u1) (some b):=(aac w b 0 u0).trans (aac _ b 1 u1)
theorem Bx.to_2 {w:World} {b:Nat} {T:TypeId} {x0 x1:Value} (h:Bx w b #[x0,x1] T) (u0 u1:Value):Bx ((w.setCell ⟨b,0,none⟩ u0).setCell ⟨b,1,none⟩ u1) b #[u0,u1] T:=by
 have:=((h.set 0 u0).set 1 u1)
 simpa using this
theorem Bx.all_2 {w:World} {b:Nat} {T:TypeId} {x0 x1:Value} (h:Bx w b #[x0,x1] T):w.cell? ⟨b,0,none⟩=some x0∧w.cell? ⟨b,1,none⟩=some x1:=⟨h.cell 0,h.cell 1⟩
theorem ahi (w:World) (b:Nat) (u0 u1 u2 u3:Value):w.grownBy ((((w.setCell ⟨b,0,none⟩ u0).setCell ⟨b,1,none⟩ u1).setCell ⟨b,2,none⟩ u2).setCell ⟨b,3,none⟩ u3) (some b):=(((aac w b 0 u0).trans (aac _ b 1 u1)).trans (aac _ b 2 u2)).trans (aac _ b 3 u3)
theorem Bx.to_4 {w:World} {b:Nat} {T:TypeId} {x0 x1 x2 x3:Value} (h:Bx w b #[x0,x1,x2,x3] T) (u0 u1 u2 u3:Value):Bx ((((w.setCell ⟨b,0,none⟩ u0).setCell ⟨b,1,none⟩ u1).setCell ⟨b,2,none⟩ u2).setCell ⟨b,3,none⟩ u3) b #[u0,u1,u2,u3] T:=by
 have:=((((h.set 0 u0).set 1 u1).set 2 u2).set 3 u3)
 simpa using this
theorem Bx.all_4 {w:World} {b:Nat} {T:TypeId} {x0 x1 x2 x3:Value} (h:Bx w b #[x0,x1,x2,x3] T):w.cell? ⟨b,0,none⟩=some x0∧w.cell? ⟨b,1,none⟩=some x1∧w.cell? ⟨b,2,none⟩=some x2∧w.cell? ⟨b,3,none⟩=some x3:=⟨h.cell 0,h.cell 1,h.cell 2,h.cell 3⟩
theorem grown_6 (w:World) (b:Nat) (u0 u1 u2 u3 u4 u5:Value):w.grownBy ((((((w.setCell ⟨b,0,none⟩ u0).setCell ⟨b,1,none⟩ u1).setCell ⟨b,2,none⟩ u2).setCell ⟨b,3,none⟩ u3).setCell ⟨b,4,none⟩ u4).setCell ⟨b,5,none⟩ u5) (some b):=(((((aac w b 0 u0).trans (aac _ b 1 u1)).trans (aac _ b 2 u2)).trans (aac _ b 3 u3)).trans (aac _ b 4 u4)).trans (aac _ b 5 u5)
theorem Bx.to_6 {w:World} {b:Nat} {T:TypeId} {x0 x1 x2 x3 x4 x5:Value} (h:Bx w b #[x0,x1,x2,x3,x4,x5] T) (u0 u1 u2 u3 u4 u5:Value):Bx ((((((w.setCell ⟨b,0,none⟩ u0).setCell ⟨b,1,none⟩ u1).setCell ⟨b,2,none⟩ u2).setCell ⟨b,3,none⟩ u3).setCell ⟨b,4,none⟩ u4).setCell ⟨b,5,none⟩ u5) b #[u0,u1,u2,u3,u4,u5] T:=by
 have:=((((((h.set 0 u0).set 1 u1).set 2 u2).set 3 u3).set 4 u4).set 5 u5)
 simpa using this
theorem Bx.all_6 {w:World} {b:Nat} {T:TypeId} {x0 x1 x2 x3 x4 x5:Value} (h:Bx w b #[x0,x1,x2,x3,x4,x5] T):w.cell? ⟨b,0,none⟩=some x0∧w.cell? ⟨b,1,none⟩=some x1∧w.cell? ⟨b,2,none⟩=some x2∧w.cell? ⟨b,3,none⟩=some x3∧w.cell? ⟨b,4,none⟩=some x4∧w.cell? ⟨b,5,none⟩=some x5:=⟨h.cell 0,h.cell 1,h.cell 2,h.cell 3,h.cell 4,h.cell 5⟩
theorem acl (w:World) (b:Nat) (u0 u1 u2 u3 u4 u5 u6 u7 u8:Value):w.grownBy (((((((((w.setCell ⟨b,0,none⟩ u0).setCell ⟨b,1,none⟩ u1).setCell ⟨b,2,none⟩ u2).setCell ⟨b,3,none⟩ u3).setCell ⟨b,4,none⟩ u4).setCell ⟨b,5,none⟩ u5).setCell ⟨b,6,none⟩ u6).setCell ⟨b,7,none⟩ u7).setCell ⟨b,8,none⟩ u8) (some b):=((((((((aac w b 0 u0).trans (aac _ b 1 u1)).trans (aac _ b 2 u2)).trans (aac _ b 3 u3)).trans (aac _ b 4 u4)).trans (aac _ b 5 u5)).trans (aac _ b 6 u6)).trans (aac _ b 7 u7)).trans (aac _ b 8 u8)
theorem Bx.to_9 {w:World} {b:Nat} {T:TypeId} {x0 x1 x2 x3 x4 x5 x6 x7 x8:Value} (h:Bx w b #[x0,x1,x2,x3,x4,x5,x6,x7,x8] T) (u0 u1 u2 u3 u4 u5 u6 u7 u8:Value):Bx (((((((((w.setCell ⟨b,0,none⟩ u0).setCell ⟨b,1,none⟩ u1).setCell ⟨b,2,none⟩ u2).setCell ⟨b,3,none⟩ u3).setCell ⟨b,4,none⟩ u4).setCell ⟨b,5,none⟩ u5).setCell ⟨b,6,none⟩ u6).setCell ⟨b,7,none⟩ u7).setCell ⟨b,8,none⟩ u8) b #[u0,u1,u2,u3,u4,u5,u6,u7,u8] T:=by
 have:=(((((((((h.set 0 u0).set 1 u1).set 2 u2).set 3 u3).set 4 u4).set 5 u5).set 6 u6).set 7 u7).set 8 u8)
 simpa using this
theorem Bx.all_9 {w:World} {b:Nat} {T:TypeId} {x0 x1 x2 x3 x4 x5 x6 x7 x8:Value} (h:Bx w b #[x0,x1,x2,x3,x4,x5,x6,x7,x8] T):w.cell? ⟨b,0,none⟩=some x0∧w.cell? ⟨b,1,none⟩=some x1∧w.cell? ⟨b,2,none⟩=some x2∧w.cell? ⟨b,3,none⟩=some x3∧w.cell? ⟨b,4,none⟩=some x4∧w.cell? ⟨b,5,none⟩=some x5∧w.cell? ⟨b,6,none⟩=some x6∧w.cell? ⟨b,7,none⟩=some x7∧w.cell? ⟨b,8,none⟩=some x8:=⟨h.cell 0,h.cell 1,h.cell 2,h.cell 3,h.cell 4,h.cell 5,h.cell 6,h.cell 7,h.cell 8⟩
end
section
open Go.RowKit
theorem Bx.grown {w w':World} {b c:Nat} {cs:Array Value} {T:TypeId} (h:Bx w b cs T) (hg:w.grownBy w' (some c)) (hne:b≠c):Bx w' b cs T:=(hg.block b h.lt (by simpa using hne)).trans h
theorem Rd.few {W0 w:World} {c:Nat} {s:RS} (h:Rd W0 c s w):s.len≤1000000:=by obtain ⟨_,_,_,hm,_⟩:=h.cells;exact hm.2.2
def lenAt (w:World) (c:Nat):Nat:=match w.cell? ⟨c,0,none⟩ with|some (.slice _ n _)=>n|_=>0
theorem abe {W0 w:World} {c:Nat} {s:RS} (h:Rd W0 c s w):lenAt w c=s.len:=by
 obtain ⟨A,cap,_,_,hx⟩:=h.cells
 have:=hx.cell 0
 simp only [List.getElem?_toArray,List.getElem?_cons_zero] at this
 unfold lenAt;rw [this];rfl
theorem EX.tag {y:Nd} (h:EX y):y.tag=.ex:=by obtain ⟨k,n,tx,nm,ty,A,len,cap,l,rfl⟩:=h;rfl
def OwnE (B:Nat) (w:World) (v:Value) (ys:List Nd):Prop :=
 w.ownsRow B 35 8 v ys.length (ys.flatMap aab)∧(∀ y ∈ ys,EX y)∧KO B v.ownBlock w ys∧ys.length≤2000000
theorem OwnE.nil (B:Nat) (w:World):OwnE B w (.slice none 0 0) []:=⟨World.ownsRow_nil _ _ _ _,by simp,KO.nil _ _ _,by simp⟩
theorem OwnE.form {B:Nat} {w:World} {v:Value} {ys:List Nd} (h:OwnE B w v ys):∃ A cap,v=.slice A ys.length cap:=by
 obtain ⟨A,cap,hv,_⟩:=abc h.1;exact ⟨A,cap,hv⟩
theorem OwnE.fk {B:Nat} {w:World} {v:Value} {ys:List Nd} (h:OwnE B w v ys):FkL B w .ex v ys:=by
 obtain ⟨ho,hx,hk,hm⟩:=h
 have ht:∀ x ∈ ys,x.tag=.ex:=fun x hx'=>(hx x hx').tag
 intro ws hs
 refine ⟨?_,hk ws fun k j u hB _ hu=>hs k j u hB hu⟩
 obtain ⟨A,cap,rfl,hc⟩:=abc ho
 refine ⟨A,cap,rfl,⟨by unfold maxLen;omega,hc⟩,ht,fun hn=>?_⟩
 obtain ⟨g,cap',hv,hg,hl,hat⟩:=ags ho hn
 injection hv with h1 h2 h3
 refine ⟨g,0,h1,fun i x hx j u hu=>?_⟩
 have hj:j < Tg.ex.sz:=by rw [← ht x (List.mem_of_getElem? hx),← acs];exact (List.getElem?_eq_some_iff.1 hu).1
 have:=(hat (i * Tg.ex.sz+j) u (by rw [ah7 ys i j x ht hx hj];exact hu)).1
 rw [Nat.zero_add]
 exact hs g _ u hg this
theorem OwnE.node {B:Nat} {w:World} {v:Value} {ys:List Nd} (h:OwnE B w v ys) (k n:Int) (tx nm ty:ByteArray) (hs:tx.size≤maxLen∧nm.size≤maxLen∧ty.size≤maxLen) {x:Nd} (hx:aaq x=.ex k n tx nm ty (.slice none 0 0) (aai ys) ⟨#[]⟩ 0) :
  ExK B none w x (.ex k n tx nm ty v ys ⟨#[]⟩ 0):=by
 obtain ⟨A,cap,hv⟩:=h.form
 have hf:=h.fk
 subst hv
 exact ⟨k,n,tx,nm,ty,A,cap,ys,rfl,hs,fun ws hk=>hf ws fun k j u hB hu=>hk k j u hB (by simp) hu,by rw [hx];rfl⟩
theorem KO.grown {B c:Nat} {r:Option Nat} {w w':World} {l:List Nd} (h:KO B r w l) (hg:w.grownBy w' (some c)) (hc:c < B):KO B r w' l :=
 fun ws hs=>h ws fun k j u hk hne hu=>hs k j u hk hne ((World.cell?_of_block (a:=⟨k,j,none⟩) (hg.block k (World.block_lt_of_cell? w (a:=⟨k,j,none⟩) hu) (by simp;omega))).trans hu)
theorem OwnE.grown {B c:Nat} {w w':World} {v:Value} {ys:List Nd} (h:OwnE B w v ys) (hg:w.grownBy w' (some c)) (hc:c < B):OwnE B w' v ys :=
 ⟨h.1.kept hg (by
  cases hv:v.ownBlock with
  | none=>exact .inl rfl
  | some g=>exact .inr (by have:=(h.1.lt g hv).1;simp;omega)),h.2.1,h.2.2.1.grown hg hc,h.2.2.2⟩
theorem OwnE.below {B:Nat} {w w':World} {v:Value} {ys:List Nd} (h:OwnE B w v ys) (hb:Below w.heap.size w w'):OwnE B w' v ys :=
 ⟨abr h.1 hb,h.2.1,fun ws hs=>h.2.2.1 ws fun k j u hk hne hu=>hs k j u hk hne (Keep.below hb _ _ hu),h.2.2.2⟩
theorem OwnE.mono {B C:Nat} {w:World} {v:Value} {ys:List Nd} (h:OwnE B w v ys) (hC:C≤B):OwnE C w v ys :=
 ⟨aiw h.1 hC,h.2.1,fun ws hs=>h.2.2.1 ws fun k j u hk hne hu=>hs k j u (Nat.le_trans hC hk) hne hu,h.2.2.2⟩
theorem OwnE.lt {B:Nat} {w:World} {v:Value} {ys:List Nd} (h:OwnE B w v ys):∀ k,v.ownBlock=some k→B≤k∧k < w.heap.size:=h.1.lt
theorem ab4 {ys xs:List Nd} (h:aai ys=aai xs) (k n:Int) (tx nm ty:ByteArray):aaq (mkE k n tx nm ty xs)=.ex k n tx nm ty (.slice none 0 0) (aai ys) ⟨#[]⟩ 0:=by simp only [mkE,aaq];rw [h]
theorem acp {y x:Nd} (h:aaq y=aaq x):aai [y]=aai [x]:=by simp only [aai];rw [h]
theorem Mv.row {W0 w w1 w2:World} {c:Nat} {s:RS} {v:Value} (h:Mv W0 c s w w1) (hg:w1.grownBy w2 v.ownBlock) (hne:∀ k,v.ownBlock=some k→k≠c) (hB:∀ k,v.ownBlock=some k→w.heap.size≤k) (hc:c < w.heap.size) (hle:W0.heap.size≤w.heap.size:=by assumption):Mv W0 c s w w2:=by
 obtain ⟨h1,h2,h3,u,hu,hx⟩:=h
 refine ⟨⟨hg.os.trans h1.os,hg.tape.trans h1.tape,hg.output.trans h1.output,Nat.le_trans h1.size hg.size,fun k hk hkc=>?_⟩,?_,h3,u,hu,?_⟩
 ·refine (hg.block k (Nat.lt_of_lt_of_le hk h1.size) fun e=>?_).trans (h1.block k hk hkc)
  have:=hB k e.symm
  omega
 ·have h0:W0.heap.size≤w.heap.size:=hle
  exact h2.grown hg h2.size fun k hk=>Nat.le_trans h0 (hB k hk)
 ·exact (hg.block c hx.lt fun e=>hne c e.symm rfl).trans hx
theorem OwnE.after {W0 w w1 w2 w3:World} {c:Nat} {s s3:RS} {v:Value} {ys:List Nd} (h1:Mv W0 c s w w1) (h:OwnE w1.heap.size w2 v ys) (h3:Mv W0 c s3 w2 w3) (hc:c < w.heap.size):OwnE w.heap.size w3 v ys :=
 (h.grown h3.1 (Nat.lt_of_lt_of_le hc h1.1.size)).mono h1.1.size
theorem ExK.kd {B:Nat} {r:Option Nat} {w:World} {x y:Nd} (h:ExK B r w x y):EX y∧∀ ws,(∀ k j u,B≤k→some k≠r→w.cell? ⟨k,j,none⟩=some u→ws.cell? ⟨k,j,none⟩=some u)→Kd ws y:=by
 obtain ⟨k,n,tx,nm,ty,A,cap,l,rfl,hs,hf,hb⟩:=h
 refine ⟨⟨k,n,tx,nm,ty,A,l.length,cap,l,rfl⟩,fun ws hk=>?_⟩
 rw [Kd]
 exact ⟨hs,(hf ws hk).1,(hf ws hk).2⟩
theorem OwnE.one {B:Nat} {W:World} {x y:Nd} (h:ExK B none W x y) (hB:B≤W.heap.size):OwnE B (W.alloc (.cells (aab y).toArray 35)) (.slice (some ⟨W.heap.size,0,none⟩) 1 1) [y]:=by
 obtain ⟨hex,hk⟩:=h.kd
 have hl:=World.ownsRow_lit (base:=B) (e:=35) (size:=8) W (aab y).toArray 1 hB (by unfold maxLen;omega) (by simp [acs,hex.tag,Tg.sz])
 refine ⟨by simpa using hl,by simpa using hex,?_,by simp⟩
 intro ws hs
 refine ⟨hk ws fun k j u hB' _ hu=>hs k j u hB' ?_ (Keep.below ((Below.refl _ W).alloc (Nat.le_refl _) _) _ _ hu),trivial⟩
 have hlt:=World.block_lt_of_cell? W (a:=⟨k,j,none⟩) hu
 simp only [Value.ownBlock] at hlt ⊢
 simp;omega
theorem OwnE.app {B B2:Nat} {w w':World} {v v2 v':Value} {xs ys:List Nd} (h:OwnE B w v xs) (h2:OwnE B2 w v2 ys) (hB:B≤B2) (hv:∀ k,v.ownBlock=some k→k < B2)
  (ho:w'.ownsRow B 35 8 v' (xs.length+ys.length) (xs.flatMap aab ++ ys.flatMap aab)) (hg:w.grownBy w' v.ownBlock) (hat:v'.ownBlock=v.ownBlock∨v'.ownBlock=some w.heap.size) (hm:xs.length+ys.length≤2000000):OwnE B w' v' (xs ++ ys):=by
 have key:∀ k j u,some k≠v.ownBlock→w.cell? ⟨k,j,none⟩=some u→w'.cell? ⟨k,j,none⟩=some u∧some k≠v'.ownBlock:=by
  intro k j u hk hu
  have hlt:=World.block_lt_of_cell? w (a:=⟨k,j,none⟩) hu
  simp only at hlt
  refine ⟨(World.cell?_of_block (a:=⟨k,j,none⟩) (hg.block k hlt hk)).trans hu,?_⟩
  rcases hat with e|e
  ·rw [e];exact hk
  ·rw [e];intro e';injection e' with e';omega
 refine ⟨by simpa using ho,fun y hy=>?_,fun ws hs=>afb (h.2.2.1 ws fun k j u hk hne hu=>?_) (h2.2.2.1 ws fun k j u hk hne hu=>?_),by simpa using hm⟩
 ·rcases List.mem_append.1 hy with hy|hy
  ·exact h.2.1 y hy
  ·exact h2.2.1 y hy
 ·exact hs k j u hk (key k j u hne hu).2 (key k j u hne hu).1
 ·have hkv:some k≠v.ownBlock:=by
   intro e
   have:=hv k e.symm
   omega
  exact hs k j u (Nat.le_trans hB hk) (key k j u hkv hu).2 (key k j u hkv hu).1
def wide (m:Md) (s:RS):Nat:=match m with
 | .more l=>l.length+s.len
 | .listed|.args=>s.len+1
 | _=>1
theorem ace {s:RS} {p:ByteArray} (h:s.sees 0 p=true):1≤s.len:=by
 cases hw:s.ws with
 | nil=>exact absurd hw (sees_ne h)
 | cons x l=>simp [RS.len,hw]
theorem run_wide:∀ (n:Nat) (m:Md) (s:RS),(run n m s).1.length≤wide m s:=by
 intro n
 induction n with
 | zero=>intro m s;simp [run]
 | succ n ih =>
  intro m s
  cases m with
  | expr=>exact ih _ _
  | joined k=>exact ih _ _
  | loopJ k e =>
   simp only [run]
   split
   ·split
    ·exact ih _ _
    ·exact Nat.le_refl _
   ·exact Nat.le_refl _
  | signed =>
   simp only [run]
   split
   ·exact Nat.le_refl _
   ·exact ih _ _
  | followed=>exact ih _ _
  | loopF e =>
   simp only [run]
   split
   ·exact ih _ _
   ·split
    ·exact ih _ _
    ·split
     ·exact ih _ _
     ·exact Nat.le_refl _
  | used p c ty l =>
   simp only [run]
   split<;>exact Nat.le_refl _
  | args =>
   simp only [run]
   have h1:=aa4 s aah
   have h2:=ih .listed (s.enter aah)
   simp only [wide] at h2 ⊢
   omega
  | listed =>
   simp only [run]
   split
   ·simp [wide]
   ·have h1:=abm n .expr s
    have h2:=ih (.more [hdE (run n .expr s).1]) (run n .expr s).2
    simp only [wide,List.length_cons,List.length_nil] at h2 ⊢
    omega
  | more l =>
   simp only [run]
   split
   ·rename_i hs
    have h0:=ace hs
    have h1:=aaf s
    have h2:=abm n .expr s.skip
    have h3:=ih (.more (l ++ [hdE (run n .expr s.skip).1])) (run n .expr s.skip).2
    simp only [wide,List.length_append,List.length_cons,List.length_nil] at h3 ⊢
    omega
   ·simp [wide]
  | atom =>
   simp only [run]
   repeat' split
   all_goals first|exact ih _ _|exact Nat.le_refl _
  | fixed =>
   simp only [run]
   repeat' split
   all_goals first|exact ih _ _|exact Nat.le_refl _
def LsC (W0:World) (c:Nat) (w:World) (r:List Nd×RS) (e:Ending) (w':World):Prop:=∃ v ys,e=.returned v∧OwnE w.heap.size w' v ys∧aai ys=aai r.1∧Mv W0 c r.2 w w'
def SpecS (n:Nat):Prop:=∀ (W0 w:World) (c:Nat) (s:RS),Vars W0→Rd W0 c s w→aaj n .signed s→Calls Tryz.prog 102 #[.pointer (some ⟨c,0,none⟩)] w (ExC W0 c w (run n .signed s))
def SpecF (n:Nat):Prop:=∀ (W0 w:World) (c:Nat) (s:RS),Vars W0→Rd W0 c s w→aaj n .followed s→Calls Tryz.prog 143 #[.pointer (some ⟨c,0,none⟩)] w (ExC W0 c w (run n .followed s))
def SpecA (n:Nat):Prop:=∀ (W0 w:World) (c:Nat) (s:RS),Vars W0→Rd W0 c s w→aaj n .atom s→Calls Tryz.prog 175 #[.pointer (some ⟨c,0,none⟩)] w (ExC W0 c w (run n .atom s))
def SpecX (n:Nat):Prop:=∀ (W0 w:World) (c:Nat) (s:RS),Vars W0→Rd W0 c s w→aaj n .fixed s→Calls Tryz.prog 192 #[.pointer (some ⟨c,0,none⟩)] w (ExC W0 c w (run n .fixed s))
def SpecR (n:Nat):Prop:=∀ (W0 w:World) (c:Nat) (s:RS),Vars W0→Rd W0 c s w→aaj n .args s→Calls Tryz.prog 193 #[.pointer (some ⟨c,0,none⟩)] w (LsC W0 c w (run n .args s))
def SpecL (n:Nat):Prop:=∀ (W0 w:World) (c:Nat) (s:RS),Vars W0→Rd W0 c s w→aaj n .listed s→Calls Tryz.prog 210 #[.pointer (some ⟨c,0,none⟩),.func (.func 31) #[] #[]] w (LsC W0 c w (run n .listed s))
def KR (B:Nat) (r1 r2:Option Nat) (w:World) (l:List Nd):Prop :=
 ∀ ws,(∀ k j u,B≤k→some k≠r1→some k≠r2→w.cell? ⟨k,j,none⟩=some u→ws.cell? ⟨k,j,none⟩=some u)→KdL ws l
def OwnR (B:Nat) (r:Option Nat) (w:World) (v:Value) (ys:List Nd):Prop :=
 w.ownsRow B 35 8 v ys.length (ys.flatMap aab)∧(∀ y ∈ ys,EX y)∧KR B v.ownBlock r w ys∧ys.length≤2000000
theorem OwnR.nil (B:Nat) (r:Option Nat) (w:World):OwnR B r w (.slice none 0 0) []:=⟨World.ownsRow_nil _ _ _ _,by simp,fun _ _=>trivial,by simp⟩
theorem OwnR.lt {B:Nat} {r:Option Nat} {w:World} {v:Value} {ys:List Nd} (h:OwnR B r w v ys):∀ k,v.ownBlock=some k→B≤k∧k < w.heap.size:=h.1.lt
theorem OwnR.grown {B c:Nat} {r:Option Nat} {w w':World} {v:Value} {ys:List Nd} (h:OwnR B r w v ys) (hg:w.grownBy w' (some c)) (hc:c < B):OwnR B r w' v ys :=
 ⟨h.1.kept hg (by
  cases hv:v.ownBlock with
  | none=>exact .inl rfl
  | some g=>exact .inr (by have:=(h.1.lt g hv).1;simp;omega)),h.2.1,fun ws hs=>h.2.2.1 ws fun k j u hk n1 n2 hu=>hs k j u hk n1 n2 ((World.cell?_of_block (a:=⟨k,j,none⟩) (hg.block k (World.block_lt_of_cell? w (a:=⟨k,j,none⟩) hu) (by simp;omega))).trans hu),h.2.2.2⟩
theorem OwnR.node {B:Nat} {r:Option Nat} {w:World} {v:Value} {ys:List Nd} (h:OwnR B r w v ys) (hr:∀ g,r=some g→v.ownBlock≠some g) (k n:Int) (tx nm ty:ByteArray) (hs:tx.size≤maxLen∧nm.size≤maxLen∧ty.size≤maxLen) {x:Nd} (hx:aaq x=.ex k n tx nm ty (.slice none 0 0) (aai ys) ⟨#[]⟩ 0) :
  ExK B r w x (.ex k n tx nm ty v ys ⟨#[]⟩ 0):=by
 obtain ⟨ho,hex,hk,hm⟩:=h
 have ht:∀ x ∈ ys,x.tag=.ex:=fun x hx'=>(hex x hx').tag
 obtain ⟨A,cap,rfl,hc⟩:=abc ho
 refine ⟨k,n,tx,nm,ty,A,cap,ys,rfl,hs,fun ws hws=>⟨⟨A,cap,rfl,⟨by unfold maxLen;omega,hc⟩,ht,fun hn=>?_⟩,hk ws fun k j u hB n1 n2 hu=>hws k j u hB n2 hu⟩,by rw [hx];rfl⟩
 obtain ⟨g,cap',hv,hg,hl,hat⟩:=ags ho hn
 injection hv with h1 h2 h3
 refine ⟨g,0,h1,fun i x hx j u hu=>?_⟩
 have hj:j < Tg.ex.sz:=by rw [← ht x (List.mem_of_getElem? hx),← acs];exact (List.getElem?_eq_some_iff.1 hu).1
 have:=(hat (i * Tg.ex.sz+j) u (by rw [ah7 ys i j x ht hx hj];exact hu)).1
 rw [Nat.zero_add]
 refine hws g _ u hg (fun e=>?_) this
 subst h1
 exact hr g e.symm rfl
theorem OwnR.one {B:Nat} {r:Option Nat} {W:World} {x y:Nd} (h:ExK B r W x y) (hB:B≤W.heap.size):OwnR B r (W.alloc (.cells (aab y).toArray 35)) (.slice (some ⟨W.heap.size,0,none⟩) 1 1) [y]:=by
 obtain ⟨hex,hk⟩:=h.kd
 have hl:=World.ownsRow_lit (base:=B) (e:=35) (size:=8) W (aab y).toArray 1 hB (by unfold maxLen;omega) (by simp [acs,hex.tag,Tg.sz])
 refine ⟨by simpa using hl,by simpa using hex,?_,by simp⟩
 intro ws hs
 refine ⟨hk ws fun k j u hB' hr hu=>hs k j u hB' ?_ hr (Keep.below ((Below.refl _ W).alloc (Nat.le_refl _) _) _ _ hu),trivial⟩
 have hlt:=World.block_lt_of_cell? W (a:=⟨k,j,none⟩) hu
 simp only [Value.ownBlock] at hlt ⊢
 simp;omega
def UsC (W0:World) (B:Nat) (r:Option Nat) (c:Nat) (w:World) (R:List Nd×RS) (e:Ending) (w':World):Prop:=∃ y,e=.returned (.agg (aab y).toArray)∧ExK B r w' (hdE R.1) y∧Mv W0 c R.2 w w'
def SpecU (n:Nat):Prop:=∀ (W0 w:World) (B:Nat) (r:Option Nat) (c:Nat) (s:RS) (p k:Int) (ty:ByteArray) (v:Value) (xs ys:List Nd),Vars W0→Rd W0 c s w→aaj n (.used p k ty xs) s→OwnR B r w v ys→aai ys=aai xs→c < B→B≤w.heap.size→(∃ A,v=.slice A ys.length ys.length)→ys.length≤1→ty.size≤maxLen →
 (∀ g,r=some g→g < w.heap.size∧v.ownBlock≠some g) →
 Calls Tryz.prog 176 #[.pointer (some ⟨c,0,none⟩),.agg #[.int .i64 0,.int .i32 0,.string ⟨#[]⟩,.string ⟨#[]⟩,.string ty,v,.string ⟨#[]⟩,.int .i64 0],.int .i64 p,.int .i64 k] w (UsC W0 B r c w (run n (.used p k ty xs) s))
end
section
open Go.RowKit
theorem brackets_of (n:Nat) (IH:SpecE n) (W0 w:World) (c:Nat) (s:RS) (hv:Vars W0) (h:Rd W0 c s w) (hen:aaj n .expr (s.enter aah)) :
  Calls Tryz.prog 209 #[.pointer (some ⟨c,0,none⟩)] w (ExC W0 c w ([hdE (run n .expr (s.enter aah)).1],(run n .expr (s.enter aah)).2.leave aa6)):=by
 obtain ⟨r,hr⟩:∃ r,run n .expr (s.enter aah)=r:=⟨_,rfl⟩
 rw [hr]
 have hlt:=h.lt
 have hle0:=h.le
 obtain ⟨W1,hW1⟩:∃ W1,w.alloc (.cells #[.int .i64 0,.int .i32 0,.string ⟨#[]⟩,.string ⟨#[]⟩,.string ⟨#[]⟩,.slice none 0 0,.string ⟨#[]⟩,.int .i64 0] 35)=W1:=⟨_,rfl⟩
 have hb:Below w.heap.size w W1:=by rw [← hW1];exact (Below.refl _ w).alloc (Nat.le_refl _) _
 have hx:Bx W1 w.heap.size #[.int .i64 0,.int .i32 0,.string ⟨#[]⟩,.string ⟨#[]⟩,.string ⟨#[]⟩,.slice none 0 0,.string ⟨#[]⟩,.int .i64 0] 35:=by rw [← hW1];exact Bx.new _ _ _
 have hz:W1.heap.size=w.heap.size+1:=by rw [← hW1];simp
 have HM0:=ke (Mv.below hb h)
 have HE:=ke (afl W0 W1 c s aah HM0.out.2)
 have HX:Hid (∀ w',Rd W0 c (s.enter aah) w'→Calls Tryz.prog 31 #[.pointer (some ⟨c,0,none⟩)] w' (ExC W0 c w' r)):=by
  show ∀ w',_
  intro w' h';have:=IH W0 w' c _ hv h' hen;rw [hr] at this;exact this
 have HV:Hid (∀ w',Rd W0 c r.2 w'→Calls Tryz.prog 185 #[.pointer (some ⟨c,0,none⟩),.string aa6] w' fun e w''=>e=.returned (.tuple #[])∧Mv W0 c (r.2.leave aa6) w' w''):=by
  show ∀ w',_
  intro w' h';exact ai2 W0 w' c r.2 aa6 h'
 have HX0:=ke hx
 clear hr hen h IH hv hx hb
 go_enter Tryz.func209,Tryz.ntmps209
 go_wp2_with (go_at_call 142;refine HE.out.mono ?_;clear HE hW1;rintro e w2 ⟨rfl,hm⟩;have HM1:=ke hm;clear hm)
 refine (HX.out _ HM1.out.2).mono ?_
 clear HX
 rintro e w3 ⟨y,rfl,hk,hm⟩
 have HK:=ke hk
 obtain ⟨k,m,tx,nm,ty,A,cap,l,rfl,hsz,_,hbe⟩:=hk
 have hb1:=HM1.out.1.size
 have hb2:=hm.1.size
 obtain ⟨W4,hW4⟩:∃ W4,w3.alloc (.cells #[.int .i64 k,.int .i32 m,.string tx,.string nm,.string ty,.slice A l.length cap,.string ⟨#[]⟩,.int .i64 0] 35)=W4:=⟨_,rfl⟩
 have hb4:Below w3.heap.size w3 W4:=by rw [← hW4];exact (Below.refl _ _).alloc (Nat.le_refl _) _
 have hy4:Bx W4 w3.heap.size #[.int .i64 k,.int .i32 m,.string tx,.string nm,.string ty,.slice A l.length cap,.string ⟨#[]⟩,.int .i64 0] 35:=by rw [← hW4];exact Bx.new _ _ _
 have HM4:=ke (Mv.below hb4 hm.2)
 have HB4:=ke (Bx.next (Bx.grown (Bx.grown HX0.out HM1.out.1 (by omega)) hm.1 (by omega)) hb4)
 have HK4:=ke (HK.out.below hb4)
 have HMM:=ke ((HM0.out.trans HM1.out).trans hm)
 have HY4:=ke hy4
 have hs4:=hb4.size
 subst hW4
 clear hm hbe hb4 hy4
 simp only [aab]
 go_wp2_with fail
 refine (HV.out _ HM4.out.2).mono ?_
 clear HV
 rintro e w5 ⟨rfl,hm⟩
 have HM5:=ke hm
 have hb5:=hm.1.size
 obtain ⟨a0,a1,a2,a3,a4,a5,a6,a7⟩:=(Bx.grown HY4.out hm.1 (by omega)).all_8
 have HB5:=ke (Bx.grown HB4.out hm.1 (by omega))
 have hx2:=HB5.out
 obtain ⟨r0,r1,r2,r3,r4,r5,r6,r7⟩:=hx2.all_8
 have g0:=hx2.fro 0;have g1:=hx2.fro 1;have g2:=hx2.fro 2;have g3:=hx2.fro 3;have g4:=hx2.fro 4;have g5:=hx2.fro 5;have g6:=hx2.fro 6;have g7:=hx2.fro 7
 have HK5:=ke (HK4.out.grown hm.1 (.inl (by omega)))
 have HG:=ke (aaw w5 w.heap.size (.int .i64 k) (.int .i32 m) (.string tx) (.string nm) (.string ty) (.slice A l.length cap) (.string ⟨#[]⟩) (.int .i64 0))
 clear hx2 hm
 go_wp2_with fail
 obtain ⟨z0,z1,z2,z3,z4,z5,z6,z7⟩:=(HB5.out.to_8 (.int .i64 k) (.int .i32 m) (.string tx) (.string nm) (.string ty) (.slice A l.length cap) (.string ⟨#[]⟩) (.int .i64 0)).all_8
 refine bodyPost_ret (v:=.agg #[.int .i64 k,.int .i32 m,.string tx,.string nm,.string ty,.slice A l.length cap,.string ⟨#[]⟩,.int .i64 0]) (by simp [results,Tryz.results209,go_sem,z0,z1,z2,z3,z4,z5,z6,z7]) rfl ?_
 exact ⟨_,rfl,(HK5.out.grown HG.out (.inl (by omega))).mono (by omega),Mv.over (Below.refl _ _) ((HMM.out.trans HM4.out).trans HM5.out) HG.out (Nat.le_refl _) hlt⟩
end
section
open Go.RowKit
theorem args_of (n:Nat) (IH:SpecL n):SpecR (n+1):=by
 intro W0 w c s hv h hn
 obtain ⟨r,hr⟩:∃ r,run n .listed (s.enter aah)=r:=⟨_,rfl⟩
 have hR:run (n+1) .args s=(r.1,r.2.leave aa6):=by simp only [run,hr]
 have hen:aaj n .listed (s.enter aah):=by have:=aa4 s aah;simp only [aaj,Md.rank] at hn ⊢;omega
 have hlt:=h.lt
 have hle0:=h.le
 have HE:=ke (afl W0 w c s aah h)
 have HL:Hid (∀ w',Rd W0 c (s.enter aah) w'→Calls Tryz.prog 210 #[.pointer (some ⟨c,0,none⟩),.func (.func 31) #[] #[]] w' (LsC W0 c w' r)):=by
  show ∀ w',_
  intro w' h';have:=IH W0 w' c _ hv h' hen;rw [hr] at this;exact this
 have HV:Hid (∀ w',Rd W0 c r.2 w'→Calls Tryz.prog 185 #[.pointer (some ⟨c,0,none⟩),.string aa6] w' fun e w''=>e=.returned (.tuple #[])∧Mv W0 c (r.2.leave aa6) w' w''):=by
  show ∀ w',_
  intro w' h';exact ai2 W0 w' c r.2 aa6 h'
 rw [hR]
 clear hr hR hen hn h IH hv
 go_enter Tryz.func193,Tryz.ntmps193
 go_wp2_with (first|(go_at_call 142;refine HE.out.mono ?_;clear HE;rintro e w1 ⟨rfl,hm⟩;have HM1:=ke hm;clear hm)|(go_at_call 210;refine (HL.out _ HM1.out.2).mono ?_;clear HL;rintro e w2 ⟨v,ys,rfl,ho,hbb,hm⟩;obtain ⟨A,cap,rfl⟩:=ho.form;have HO:=ke ho;have HB:=ke hbb;have HM2:=ke hm;clear ho hbb hm)|(go_at_call 185;refine (HV.out _ HM2.out.2).mono ?_;clear HV;rintro e w3 ⟨rfl,hm⟩;have HM3:=ke hm;clear hm))
 go_ret
 exact ⟨_,ys,rfl,OwnE.after HM1.out HO.out HM3.out hlt,HB.out,(HM1.out.trans HM2.out).trans HM3.out⟩
theorem listed_of (n:Nat) (IH:∀ m,m≤n→SpecE m):SpecL (n+1):=by
 intro W0 w c s hv h hn
 have hlt:=h.lt
 have hle0:=h.le
 have HS:=ke (abo W0 w c s aa6 h)
 cases hsee:s.sees 0 aa6 with
 | true =>
  have hR:run (n+1) .listed s=([],s):=by simp only [run,hsee,if_true]
  rw [hsee] at HS
  have HM:=ke (Mv.refl h)
  rw [hR]
  clear hR hsee IH hn h hv
  go_enter Tryz.func210,Tryz.ntmps210
  go_wp2_with (go_at_call 118;refine HS.out.mono ?_;clear HS;rintro e w1 ⟨rfl,rfl⟩)
  go_ret
  exact ⟨_,[],rfl,OwnE.nil _ _,rfl,HM.out⟩
 | false =>
  obtain ⟨r,hr⟩:∃ r,run n .expr s=r:=⟨_,rfl⟩
  obtain ⟨R,hR⟩:∃ R,run n (.more [hdE r.1]) r.2=R:=⟨_,rfl⟩
  have hRR:run (n+1) .listed s=R:=by simp only [run,hsee,hr,hR];simp
  have hE:aaj n .expr s:=by simp only [aaj,Md.rank] at hn ⊢;omega
  have hl1:r.2.len≤s.len:=by have:=abm n .expr s;rw [hr] at this;exact this
  have hen:aaj n (.more [hdE r.1]) r.2:=by simp only [aaj,Md.rank] at hn ⊢;omega
  have hfew:=h.few
  have HX:=ke (IH n (Nat.le_refl _) W0 w c s hv h hE)
  rw [hr] at HX
  rw [hsee] at HS
  rw [hRR]
  have HIH:=ke IH
  have HEN:=ke hen
  have HR:=ke hR
  obtain ⟨i0,hi,hz0,hz1,hz2⟩:=info_parts Tryz.infoEx
  clear hr hR hRR hE hen hn h IH hsee
  go_enter Tryz.func210,Tryz.ntmps210
  go_wp2_with (first|(go_at_call 118;refine HS.out.mono ?_;clear HS;rintro e w1 ⟨rfl,rfl⟩)|(go_at_call 31;refine HX.out.mono ?_;clear HX;rintro e w2 ⟨y,rfl,hk,hm⟩;have HK:=ke hk;obtain ⟨k,m,tx,nm,ty,A,cap,l,rfl,_,_,_⟩:=hk;have HM:=ke hm;clear hm;simp only [aab]))
  have hB2:=HM.out.1.size
  have HO:=ke (OwnE.one HK.out hB2)
  have HM2:=ke (HM.out.trans (Mv.below ((Below.refl _ _).alloc (Nat.le_refl _) (.cells (aab (.ex k m tx nm ty (.slice A l.length cap) l ⟨#[]⟩ 0)).toArray 35)) HM.out.2))
  have HBR:Hid (aai [Nd.ex k m tx nm ty (.slice A l.length cap) l ⟨#[]⟩ 0]=aai [hdE r.1]):=by
   obtain ⟨k',m',tx',nm',ty',A',cap',l',he,_,_,hb⟩:=HK.out
   exact ke (by simp only [aai];rw [hb])
  clear HK HM
  simp only [aab] at HO HM2
  go_loopw [5] (fun v5 wr=>∃ (m:Nat) (acc ys:List Nd) (s':RS),m≤n∧run m (.more acc) s'=R∧aaj m (.more acc) s'∧OwnE w.heap.size wr v5 ys∧aai ys=aai acc∧ys.length+s'.len≤1000001∧Mv W0 c s' w wr) (fun v5 wr=>lenAt wr c)
  case atStart=>exact ⟨n,_,_,r.2,Nat.le_refl _,HR.out,HEN.out,HO.out,HBR.out,by simp;omega,HM2.out⟩
  case round =>
   obtain ⟨m,acc,ys,s',hmn,hrun,hen,ho,hbr,hbd,hm⟩:=hrel
   obtain ⟨m,rfl⟩:∃ m',m=m'+1:=⟨m - 1,by simp only [aaj,Md.rank] at hen;omega⟩
   have HT:=ke (aca W0 wr c s' aei hm.2)
   have hla:=abe hm.2
   cases hsee:s'.sees 0 aei with
   | false =>
    have hR:run (m+1) (.more acc) s'=(acc,s'):=by simp only [run,hsee];simp
    rw [hR] at hrun
    rw [hsee,aii hsee] at HT
    have HM3:=ke hm
    have HO3:=ke ho
    have HB3:=ke hbr
    subst hrun
    obtain ⟨A3,cap3,rfl⟩:=ho.form
    clear hR hsee hm ho hbr hla hen hbd
    go_wp2_with (go_at_call 73;refine HT.out.mono ?_;clear HT;rintro e w5 ⟨rfl,hm⟩;have HM4:=ke hm;clear hm)
    go_ret
    exact ⟨_,ys,rfl,HO3.out.grown HM4.out.1 hlt,HB3.out,HM3.out.trans HM4.out⟩
   | true =>
    obtain ⟨q,hq⟩:∃ q,run m .expr s'.skip=q:=⟨_,rfl⟩
    have hR:run (m+1) (.more acc) s'=run m (.more (acc ++ [hdE q.1])) q.2:=by simp only [run,hsee,hq];simp
    rw [hR] at hrun
    have h1:=ace hsee
    have h2:=aaf s'
    have h3:q.2.len≤s'.skip.len:=by have:=abm m .expr s'.skip;rw [hq] at this;exact this
    have hE:aaj m .expr s'.skip:=by simp only [aaj,Md.rank] at hen ⊢;omega
    have hen2:aaj m (.more (acc ++ [hdE q.1])) q.2:=by simp only [aaj,Md.rank] at hen ⊢;omega
    rw [hsee,akd hsee] at HT
    have HX:Hid (∀ w',Rd W0 c s'.skip w'→Calls Tryz.prog 31 #[.pointer (some ⟨c,0,none⟩)] w' (ExC W0 c w' q)):=by
     show ∀ w',_
     intro w' h';have:=HIH.out m (by omega) W0 w' c _ hv h' hE;rw [hq] at this;exact this
    have HM3:=ke hm
    have HO3:=ke ho
    have HB3:=ke hbr
    have HRUN:=ke hrun
    have HEN2:=ke hen2
    obtain ⟨A3,cap3,rfl⟩:=ho.form
    clear hR hsee hm ho hbr hen hE hen2 hrun hq
    go_wp2_with (first|(go_at_call 73;refine HT.out.mono ?_;clear HT;rintro e w5 ⟨rfl,hm⟩;have HM4:=ke hm;clear hm)|(go_at_call 31;refine (HX.out _ HM4.out.2).mono ?_;clear HX;rintro e w6 ⟨y,rfl,hk,hm⟩;have HK:=ke hk;obtain ⟨k,m',tx,nm,ty,A,cap,l,rfl,_,_,hbe⟩:=hk;have HBE:=ke hbe;clear hbe;have HM5:=ke hm;clear hm;have HY:=ke (OwnE.one HK.out HM5.out.1.size);have HO5:=ke (((HO3.out.grown HM4.out.1 hlt).grown HM5.out.1 hlt).below ((Below.refl _ _).alloc (Nat.le_refl _) (.cells (aab (.ex k m' tx nm ty (.slice A l.length cap) l ⟨#[]⟩ 0)).toArray 35)));have HMT:=ke (HM3.out.trans (HM4.out.trans (HM5.out.trans (Mv.below ((Below.refl _ _).alloc (Nat.le_refl _) (.cells (aab (.ex k m' tx nm ty (.slice A l.length cap) l ⟨#[]⟩ 0)).toArray 35)) HM5.out.2))));simp only [aab] at HY HO5 HMT;simp only [aab])|(at_builtin;refine acw rfl (.tmp 14) (.tmp 18) 33 rfl w.heap.size 35 i0 _ 8 112 Tryz.underlying33 hi hz0 hz1 hz2 rfl (by decide) _ _ _ rfl HO5.out.1 w5.heap.size _ _ _ rfl HY.out.1 (ai7 HY.out.2.1) ?c3 ?c4 ?c5 ?_))
    case c3=>unfold maxLen;simp;omega
    case c4=>simp;omega
    case c5=>have:=HMT.out.1.size;exact this
    ·intro v2 w7 hown2 hgrow hat
     have hs5:w.heap.size≤w5.heap.size:=Nat.le_trans HM3.out.1.size HM4.out.1.size
     have hvb:∀ k,(Value.slice A3 ys.length cap3).ownBlock=some k→k < w5.heap.size:=fun k hk=>Nat.lt_of_lt_of_le (HO3.out.lt k hk).2 HM4.out.1.size
     have HN:=ke (OwnE.app HO5.out HY.out hs5 hvb hown2 hgrow (hat.imp id fun e=>by rw [e];simp) (by simp;omega))
     have HM7:=ke (Mv.row HMT.out hgrow (fun k hk=>Nat.ne_of_gt (Nat.lt_of_lt_of_le hlt (HO3.out.lt k hk).1)) (fun k hk=>(HO3.out.lt k hk).1) hlt)
     have HB7:Hid (aai (ys ++ [Nd.ex k m' tx nm ty (.slice A l.length cap) l ⟨#[]⟩ 0])=aai (acc ++ [hdE q.1])):=by
      show _=_
      rw [aap,aap,HB3.out];simp only [aai];rw [HBE.out]
     clear hown2 hgrow hat hvb
     go_wp2_with fail
     go_roundw
     case rel=>exact ⟨m,_,_,q.2,by omega,HRUN.out,HEN2.out,HN.out,HB7.out,by simp;omega,HM7.out⟩
     case measure=>rw [hla,abe HM7.out.2];omega
end
section
open Go.RowKit
theorem Mv.box {W0 w:World} {c:Nat} {s:RS} (h:Rd W0 c s w) (o:Obj):Mv W0 c s w (w.alloc o):=Mv.below ((Below.refl _ _).alloc (Nat.le_refl _) _) h
theorem signed_0 (n:Nat) (IH:SpecS n) (W0 w:World) (c:Nat) (s:RS) (hv:Vars W0) (h:Rd W0 c s w) (hn:aaj (n+1) .signed s) (h0:s.sees 0 abh=true):Calls Tryz.prog 102 #[.pointer (some ⟨c,0,none⟩)] w (ExC W0 c w (run (n+1) .signed s)):=by
 obtain ⟨r,hr⟩:∃ r,run n .signed (s.enter abh)=r:=⟨_,rfl⟩
 have hsig:acz s=some abh:=by simp [acz,h0]
 have hR:run (n+1) .signed s=([mkE 18 0 E0 abh E0 [hdE r.1]],r.2.dec):=by simp only [run,hsig,hr]
 have hle:=ace h0
 have hen:aaj n .signed (s.enter abh):=by have:=aa4 s abh;simp only [aaj,Md.rank] at hn ⊢;omega
 have hlt:=h.lt
 have hle0:=h.le
 have T0:Hid (∀ w',Rd W0 c s w'→Calls Tryz.prog 118 #[.pointer (some ⟨c,0,none⟩),.string abh] w' fun e w''=>e=.returned (.bool true)∧w'=w''):=by
  show ∀ w',_
  intro w' h';have:=abo W0 w' c s abh h';rw [h0] at this;exact this
 have HEN:Hid (∀ w',Rd W0 c s w'→Calls Tryz.prog 142 #[.pointer (some ⟨c,0,none⟩),.string abh] w' fun e w''=>e=.returned (.tuple #[])∧Mv W0 c (s.enter abh) w' w''):=by
  show ∀ w',_
  intro w' h';exact afl W0 w' c s abh h'
 have HX:Hid (∀ w',Rd W0 c (s.enter abh) w'→Calls Tryz.prog 102 #[.pointer (some ⟨c,0,none⟩)] w' (ExC W0 c w' r)):=by
  show ∀ w',_
  intro w' h';have:=IH W0 w' c _ hv h' hen;rw [hr] at this;exact this
 have HRD:=ke h
 rw [hR]
 clear hR hr hsig hen hn IH hv h h0 hle
 go_enter Tryz.func102,Tryz.ntmps102
 go_wp2_with fail
 refine aak (fun W=>Bx W w.heap.size #[.int .i64 0,.int .i32 0,.string ⟨#[]⟩,.string ⟨#[]⟩,.string ⟨#[]⟩,.slice none 0 0,.string ⟨#[]⟩,.int .i64 0] 35∧Mv W0 c s w W∧W.heap.size=w.heap.size+1) ?_ ?_
 ·exact ⟨Bx.new _ _ _,Mv.box HRD.out _,by simp⟩
 rintro W ⟨hx,hmv,hz⟩
 have HX0:=ke hx
 have HM0:=ke hmv
 clear hx hmv
 go_loopw [7] (fun v7 wr=>∃ j:Nat,v7=.int .i64 j∧j≤0∧wr=W) (fun v7 wr=>0 - (intOf v7).toNat)
 case atStart=>exact ⟨0,rfl,by omega,rfl⟩
 case round =>
  obtain ⟨j,rfl,hj,rfl⟩:=hrel
  have hjs:j=0:=by omega
  rcases hjs with rfl
  ·go_wp2_with (first|(go_at_call 118;refine (T0.out _ HM0.out.2).mono ?_;rintro e w1 ⟨rfl,rfl⟩)|(go_at_call 142;refine (HEN.out _ HM0.out.2).mono ?_;clear HEN;rintro e w2 ⟨rfl,hm⟩;have HM1:=ke hm;clear hm))
   refine (HX.out _ HM1.out.2).mono ?_
   clear HX
   rintro e w3 ⟨y,rfl,hk,hm⟩
   have HK:=ke hk
   obtain ⟨k,m,tx,nm,ty,A,cap,l,rfl,hsz,_,hbe⟩:=hk
   have HBE:=ke hbe
   have HM:=ke ((HM0.out.trans HM1.out).trans hm)
   have hb1:=HM1.out.1.size
   have hb2:=hm.1.size
   have HBX:Hid (Bx w3 w.heap.size _ _):=(hm.1.block _ (by omega) (by simp;omega)).trans ((HM1.out.1.block _ (by omega) (by simp;omega)).trans HX0.out)
   obtain ⟨W4,hW4⟩:∃ W4,w3.alloc (.cells #[.int .i64 k,.int .i32 m,.string tx,.string nm,.string ty,.slice A l.length cap,.string ⟨#[]⟩,.int .i64 0] 35)=W4:=⟨_,rfl⟩
   have hb4:Below w3.heap.size w3 W4:=by rw [← hW4];exact (Below.refl _ _).alloc (Nat.le_refl _) _
   have hy4:Bx W4 w3.heap.size #[.int .i64 k,.int .i32 m,.string tx,.string nm,.string ty,.slice A l.length cap,.string ⟨#[]⟩,.int .i64 0] 35:=by rw [← hW4];exact Bx.new _ _ _
   have hm4:Mv W0 c r.2 w3 W4:=Mv.below hb4 hm.2
   obtain ⟨d2,f2⟩:=hm4.2.op
   obtain ⟨W5,hW5⟩:∃ W5,W4.setCell ⟨c,2,none⟩ (.int .i64 (wrap64 (r.2.op - 1)))=W5:=⟨_,rfl⟩
   have hm5:Mv W0 c r.2.dec W4 W5:=by rw [← hW5];exact hm4.2.dec
   have hy5:Bx W5 w3.heap.size _ _:=(hm5.1.block _ hy4.lt (by simp;omega)).trans hy4
   obtain ⟨a0,a1,a2,a3,a4,a5,a6,a7⟩:=hy5.all_8
   obtain ⟨W6,hW6⟩:∃ W6,W5.alloc (.cells #[.int .i64 k,.int .i32 m,.string tx,.string nm,.string ty,.slice A l.length cap,.string ⟨#[]⟩,.int .i64 0] 35)=W6:=⟨_,rfl⟩
   have hb6:Below W5.heap.size W5 W6:=by rw [← hW6];exact (Below.refl _ _).alloc (Nat.le_refl _) _
   have hs4:=hb4.size
   have hs5:=hm5.1.size
   have hs6:=hb6.size
   have HK5:=(HK.out.below hb4).grown hm5.1 (.inl (by omega))
   have HO6:=OwnE.one HK5 (by omega)
   simp only [aab] at HO6
   rw [hW6] at HO6
   have HBX6:=ke (Bx.next (Bx.grown (Bx.next HBX.out hb4) hm5.1 (by omega)) hb6)
   have hx2:=HBX6.out
   obtain ⟨r0,r1,r2,r3,r4,r5,r6,r7⟩:=hx2.all_8
   have g0:=hx2.fro 0;have g1:=hx2.fro 1;have g2:=hx2.fro 2;have g3:=hx2.fro 3;have g4:=hx2.fro 4;have g5:=hx2.fro 5;have g6:=hx2.fro 6;have g7:=hx2.fro 7
   have hg:=aaw W6 w.heap.size (.int .i64 18) (.int .i32 0) (.string ⟨#[]⟩) (.string ⟨#[45]⟩) (.string ⟨#[]⟩) (.slice (some ⟨W5.heap.size,0,none⟩) 1 1) (.string ⟨#[]⟩) (.int .i64 0)
   have HM6:=ke (((HM.out.trans hm4).trans hm5).trans (Mv.below hb6 hm5.2))
   have HO:=ke HO6
   have HG:=ke hg
   clear hm hbe hm4 hm5 hy4 hy5 hb4 hb6 hx2 hg HO6 HK5
   subst hW4
   simp only [aab]
   go_wp2_with fail
   obtain ⟨z0,z1,z2,z3,z4,z5,z6,z7⟩:=(HBX6.out.to_8 (.int .i64 18) (.int .i32 0) (.string ⟨#[]⟩) (.string ⟨#[45]⟩) (.string ⟨#[]⟩) (.slice (some ⟨W5.heap.size,0,none⟩) 1 1) (.string ⟨#[]⟩) (.int .i64 0)).all_8
   (try simp only [Exit.inBlock,Exit.then])
   refine bodyPost_ret (v:=.agg #[.int .i64 18,.int .i32 0,.string ⟨#[]⟩,.string ⟨#[45]⟩,.string ⟨#[]⟩,.slice (some ⟨W5.heap.size,0,none⟩) 1 1,.string ⟨#[]⟩,.int .i64 0]) (by simp [results,Tryz.results102,go_sem,z0,z1,z2,z3,z4,z5,z6,z7]) rfl ?_
   exact ⟨.ex 18 0 ⟨#[]⟩ ⟨#[45]⟩ ⟨#[]⟩ (.slice (some ⟨W5.heap.size,0,none⟩) 1 1) [_] ⟨#[]⟩ 0,rfl,((HO.out.node 18 0 ⟨#[]⟩ ⟨#[45]⟩ ⟨#[]⟩ (by decide +kernel) (ab4 (acp HBE.out) _ _ _ _ _)).grown HG.out (.inl (by omega))).mono (by omega),Mv.over (Below.refl _ _) HM6.out HG.out (Nat.le_refl _) hlt⟩
theorem signed_1 (n:Nat) (IH:SpecS n) (W0 w:World) (c:Nat) (s:RS) (hv:Vars W0) (h:Rd W0 c s w) (hn:aaj (n+1) .signed s) (h0:s.sees 0 abh=false) (h1:s.sees 0 aig=true):Calls Tryz.prog 102 #[.pointer (some ⟨c,0,none⟩)] w (ExC W0 c w (run (n+1) .signed s)):=by
 obtain ⟨r,hr⟩:∃ r,run n .signed (s.enter aig)=r:=⟨_,rfl⟩
 have hsig:acz s=some aig:=by simp [acz,h0,h1]
 have hR:run (n+1) .signed s=([mkE 18 0 E0 aig E0 [hdE r.1]],r.2.dec):=by simp only [run,hsig,hr]
 have hle:=ace h1
 have hen:aaj n .signed (s.enter aig):=by have:=aa4 s aig;simp only [aaj,Md.rank] at hn ⊢;omega
 have hlt:=h.lt
 have hle0:=h.le
 have T0:Hid (∀ w',Rd W0 c s w'→Calls Tryz.prog 118 #[.pointer (some ⟨c,0,none⟩),.string abh] w' fun e w''=>e=.returned (.bool false)∧w'=w''):=by
  show ∀ w',_
  intro w' h';have:=abo W0 w' c s abh h';rw [h0] at this;exact this
 have T1:Hid (∀ w',Rd W0 c s w'→Calls Tryz.prog 118 #[.pointer (some ⟨c,0,none⟩),.string aig] w' fun e w''=>e=.returned (.bool true)∧w'=w''):=by
  show ∀ w',_
  intro w' h';have:=abo W0 w' c s aig h';rw [h1] at this;exact this
 have HEN:Hid (∀ w',Rd W0 c s w'→Calls Tryz.prog 142 #[.pointer (some ⟨c,0,none⟩),.string aig] w' fun e w''=>e=.returned (.tuple #[])∧Mv W0 c (s.enter aig) w' w''):=by
  show ∀ w',_
  intro w' h';exact afl W0 w' c s aig h'
 have HX:Hid (∀ w',Rd W0 c (s.enter aig) w'→Calls Tryz.prog 102 #[.pointer (some ⟨c,0,none⟩)] w' (ExC W0 c w' r)):=by
  show ∀ w',_
  intro w' h';have:=IH W0 w' c _ hv h' hen;rw [hr] at this;exact this
 have HRD:=ke h
 rw [hR]
 clear hR hr hsig hen hn IH hv h h0 h1 hle
 go_enter Tryz.func102,Tryz.ntmps102
 go_wp2_with fail
 refine aak (fun W=>Bx W w.heap.size #[.int .i64 0,.int .i32 0,.string ⟨#[]⟩,.string ⟨#[]⟩,.string ⟨#[]⟩,.slice none 0 0,.string ⟨#[]⟩,.int .i64 0] 35∧Mv W0 c s w W∧W.heap.size=w.heap.size+1) ?_ ?_
 ·exact ⟨Bx.new _ _ _,Mv.box HRD.out _,by simp⟩
 rintro W ⟨hx,hmv,hz⟩
 have HX0:=ke hx
 have HM0:=ke hmv
 clear hx hmv
 go_loopw [7] (fun v7 wr=>∃ j:Nat,v7=.int .i64 j∧j≤1∧wr=W) (fun v7 wr=>1 - (intOf v7).toNat)
 case atStart=>exact ⟨0,rfl,by omega,rfl⟩
 case round =>
  obtain ⟨j,rfl,hj,rfl⟩:=hrel
  have hjs:j=0∨j=1:=by omega
  rcases hjs with rfl|rfl
  ·go_wp2_with (go_at_call 118;refine (T0.out _ HM0.out.2).mono ?_;rintro e w1 ⟨rfl,rfl⟩)
   go_roundw
   case rel=>exact ⟨1,by go_num,by omega,by simp⟩
   case measure=>simp [intOf];try omega
  ·go_wp2_with (first|(go_at_call 118;refine (T1.out _ HM0.out.2).mono ?_;rintro e w1 ⟨rfl,rfl⟩)|(go_at_call 142;refine (HEN.out _ HM0.out.2).mono ?_;clear HEN;rintro e w2 ⟨rfl,hm⟩;have HM1:=ke hm;clear hm))
   refine (HX.out _ HM1.out.2).mono ?_
   clear HX
   rintro e w3 ⟨y,rfl,hk,hm⟩
   have HK:=ke hk
   obtain ⟨k,m,tx,nm,ty,A,cap,l,rfl,hsz,_,hbe⟩:=hk
   have HBE:=ke hbe
   have HM:=ke ((HM0.out.trans HM1.out).trans hm)
   have hb1:=HM1.out.1.size
   have hb2:=hm.1.size
   have HBX:Hid (Bx w3 w.heap.size _ _):=(hm.1.block _ (by omega) (by simp;omega)).trans ((HM1.out.1.block _ (by omega) (by simp;omega)).trans HX0.out)
   obtain ⟨W4,hW4⟩:∃ W4,w3.alloc (.cells #[.int .i64 k,.int .i32 m,.string tx,.string nm,.string ty,.slice A l.length cap,.string ⟨#[]⟩,.int .i64 0] 35)=W4:=⟨_,rfl⟩
   have hb4:Below w3.heap.size w3 W4:=by rw [← hW4];exact (Below.refl _ _).alloc (Nat.le_refl _) _
   have hy4:Bx W4 w3.heap.size #[.int .i64 k,.int .i32 m,.string tx,.string nm,.string ty,.slice A l.length cap,.string ⟨#[]⟩,.int .i64 0] 35:=by rw [← hW4];exact Bx.new _ _ _
   have hm4:Mv W0 c r.2 w3 W4:=Mv.below hb4 hm.2
   obtain ⟨d2,f2⟩:=hm4.2.op
   obtain ⟨W5,hW5⟩:∃ W5,W4.setCell ⟨c,2,none⟩ (.int .i64 (wrap64 (r.2.op - 1)))=W5:=⟨_,rfl⟩
   have hm5:Mv W0 c r.2.dec W4 W5:=by rw [← hW5];exact hm4.2.dec
   have hy5:Bx W5 w3.heap.size _ _:=(hm5.1.block _ hy4.lt (by simp;omega)).trans hy4
   obtain ⟨a0,a1,a2,a3,a4,a5,a6,a7⟩:=hy5.all_8
   obtain ⟨W6,hW6⟩:∃ W6,W5.alloc (.cells #[.int .i64 k,.int .i32 m,.string tx,.string nm,.string ty,.slice A l.length cap,.string ⟨#[]⟩,.int .i64 0] 35)=W6:=⟨_,rfl⟩
   have hb6:Below W5.heap.size W5 W6:=by rw [← hW6];exact (Below.refl _ _).alloc (Nat.le_refl _) _
   have hs4:=hb4.size
   have hs5:=hm5.1.size
   have hs6:=hb6.size
   have HK5:=(HK.out.below hb4).grown hm5.1 (.inl (by omega))
   have HO6:=OwnE.one HK5 (by omega)
   simp only [aab] at HO6
   rw [hW6] at HO6
   have HBX6:=ke (Bx.next (Bx.grown (Bx.next HBX.out hb4) hm5.1 (by omega)) hb6)
   have hx2:=HBX6.out
   obtain ⟨r0,r1,r2,r3,r4,r5,r6,r7⟩:=hx2.all_8
   have g0:=hx2.fro 0;have g1:=hx2.fro 1;have g2:=hx2.fro 2;have g3:=hx2.fro 3;have g4:=hx2.fro 4;have g5:=hx2.fro 5;have g6:=hx2.fro 6;have g7:=hx2.fro 7
   have hg:=aaw W6 w.heap.size (.int .i64 18) (.int .i32 0) (.string ⟨#[]⟩) (.string ⟨#[33]⟩) (.string ⟨#[]⟩) (.slice (some ⟨W5.heap.size,0,none⟩) 1 1) (.string ⟨#[]⟩) (.int .i64 0)
   have HM6:=ke (((HM.out.trans hm4).trans hm5).trans (Mv.below hb6 hm5.2))
   have HO:=ke HO6
   have HG:=ke hg
   clear hm hbe hm4 hm5 hy4 hy5 hb4 hb6 hx2 hg HO6 HK5
   subst hW4
   simp only [aab]
   go_wp2_with fail
   obtain ⟨z0,z1,z2,z3,z4,z5,z6,z7⟩:=(HBX6.out.to_8 (.int .i64 18) (.int .i32 0) (.string ⟨#[]⟩) (.string ⟨#[33]⟩) (.string ⟨#[]⟩) (.slice (some ⟨W5.heap.size,0,none⟩) 1 1) (.string ⟨#[]⟩) (.int .i64 0)).all_8
   (try simp only [Exit.inBlock,Exit.then])
   refine bodyPost_ret (v:=.agg #[.int .i64 18,.int .i32 0,.string ⟨#[]⟩,.string ⟨#[33]⟩,.string ⟨#[]⟩,.slice (some ⟨W5.heap.size,0,none⟩) 1 1,.string ⟨#[]⟩,.int .i64 0]) (by simp [results,Tryz.results102,go_sem,z0,z1,z2,z3,z4,z5,z6,z7]) rfl ?_
   exact ⟨.ex 18 0 ⟨#[]⟩ ⟨#[33]⟩ ⟨#[]⟩ (.slice (some ⟨W5.heap.size,0,none⟩) 1 1) [_] ⟨#[]⟩ 0,rfl,((HO.out.node 18 0 ⟨#[]⟩ ⟨#[33]⟩ ⟨#[]⟩ (by decide +kernel) (ab4 (acp HBE.out) _ _ _ _ _)).grown HG.out (.inl (by omega))).mono (by omega),Mv.over (Below.refl _ _) HM6.out HG.out (Nat.le_refl _) hlt⟩
theorem signed_2 (n:Nat) (IH:SpecS n) (W0 w:World) (c:Nat) (s:RS) (hv:Vars W0) (h:Rd W0 c s w) (hn:aaj (n+1) .signed s) (h0:s.sees 0 abh=false) (h1:s.sees 0 aig=false) (h2:s.sees 0 aj5=true):Calls Tryz.prog 102 #[.pointer (some ⟨c,0,none⟩)] w (ExC W0 c w (run (n+1) .signed s)):=by
 obtain ⟨r,hr⟩:∃ r,run n .signed (s.enter aj5)=r:=⟨_,rfl⟩
 have hsig:acz s=some aj5:=by simp [acz,h0,h1,h2]
 have hR:run (n+1) .signed s=([mkE 18 0 E0 aj5 E0 [hdE r.1]],r.2.dec):=by simp only [run,hsig,hr]
 have hle:=ace h2
 have hen:aaj n .signed (s.enter aj5):=by have:=aa4 s aj5;simp only [aaj,Md.rank] at hn ⊢;omega
 have hlt:=h.lt
 have hle0:=h.le
 have T0:Hid (∀ w',Rd W0 c s w'→Calls Tryz.prog 118 #[.pointer (some ⟨c,0,none⟩),.string abh] w' fun e w''=>e=.returned (.bool false)∧w'=w''):=by
  show ∀ w',_
  intro w' h';have:=abo W0 w' c s abh h';rw [h0] at this;exact this
 have T1:Hid (∀ w',Rd W0 c s w'→Calls Tryz.prog 118 #[.pointer (some ⟨c,0,none⟩),.string aig] w' fun e w''=>e=.returned (.bool false)∧w'=w''):=by
  show ∀ w',_
  intro w' h';have:=abo W0 w' c s aig h';rw [h1] at this;exact this
 have T2:Hid (∀ w',Rd W0 c s w'→Calls Tryz.prog 118 #[.pointer (some ⟨c,0,none⟩),.string aj5] w' fun e w''=>e=.returned (.bool true)∧w'=w''):=by
  show ∀ w',_
  intro w' h';have:=abo W0 w' c s aj5 h';rw [h2] at this;exact this
 have HEN:Hid (∀ w',Rd W0 c s w'→Calls Tryz.prog 142 #[.pointer (some ⟨c,0,none⟩),.string aj5] w' fun e w''=>e=.returned (.tuple #[])∧Mv W0 c (s.enter aj5) w' w''):=by
  show ∀ w',_
  intro w' h';exact afl W0 w' c s aj5 h'
 have HX:Hid (∀ w',Rd W0 c (s.enter aj5) w'→Calls Tryz.prog 102 #[.pointer (some ⟨c,0,none⟩)] w' (ExC W0 c w' r)):=by
  show ∀ w',_
  intro w' h';have:=IH W0 w' c _ hv h' hen;rw [hr] at this;exact this
 have HRD:=ke h
 rw [hR]
 clear hR hr hsig hen hn IH hv h h0 h1 h2 hle
 go_enter Tryz.func102,Tryz.ntmps102
 go_wp2_with fail
 refine aak (fun W=>Bx W w.heap.size #[.int .i64 0,.int .i32 0,.string ⟨#[]⟩,.string ⟨#[]⟩,.string ⟨#[]⟩,.slice none 0 0,.string ⟨#[]⟩,.int .i64 0] 35∧Mv W0 c s w W∧W.heap.size=w.heap.size+1) ?_ ?_
 ·exact ⟨Bx.new _ _ _,Mv.box HRD.out _,by simp⟩
 rintro W ⟨hx,hmv,hz⟩
 have HX0:=ke hx
 have HM0:=ke hmv
 clear hx hmv
 go_loopw [7] (fun v7 wr=>∃ j:Nat,v7=.int .i64 j∧j≤2∧wr=W) (fun v7 wr=>2 - (intOf v7).toNat)
 case atStart=>exact ⟨0,rfl,by omega,rfl⟩
 case round =>
  obtain ⟨j,rfl,hj,rfl⟩:=hrel
  have hjs:j=0∨j=1∨j=2:=by omega
  rcases hjs with rfl|rfl|rfl
  ·go_wp2_with (go_at_call 118;refine (T0.out _ HM0.out.2).mono ?_;rintro e w1 ⟨rfl,rfl⟩)
   go_roundw
   case rel=>exact ⟨1,by go_num,by omega,by simp⟩
   case measure=>simp [intOf];try omega
  ·go_wp2_with (go_at_call 118;refine (T1.out _ HM0.out.2).mono ?_;rintro e w1 ⟨rfl,rfl⟩)
   go_roundw
   case rel=>exact ⟨2,by go_num,by omega,by simp⟩
   case measure=>simp [intOf];try omega
  ·go_wp2_with (first|(go_at_call 118;refine (T2.out _ HM0.out.2).mono ?_;rintro e w1 ⟨rfl,rfl⟩)|(go_at_call 142;refine (HEN.out _ HM0.out.2).mono ?_;clear HEN;rintro e w2 ⟨rfl,hm⟩;have HM1:=ke hm;clear hm))
   refine (HX.out _ HM1.out.2).mono ?_
   clear HX
   rintro e w3 ⟨y,rfl,hk,hm⟩
   have HK:=ke hk
   obtain ⟨k,m,tx,nm,ty,A,cap,l,rfl,hsz,_,hbe⟩:=hk
   have HBE:=ke hbe
   have HM:=ke ((HM0.out.trans HM1.out).trans hm)
   have hb1:=HM1.out.1.size
   have hb2:=hm.1.size
   have HBX:Hid (Bx w3 w.heap.size _ _):=(hm.1.block _ (by omega) (by simp;omega)).trans ((HM1.out.1.block _ (by omega) (by simp;omega)).trans HX0.out)
   obtain ⟨W4,hW4⟩:∃ W4,w3.alloc (.cells #[.int .i64 k,.int .i32 m,.string tx,.string nm,.string ty,.slice A l.length cap,.string ⟨#[]⟩,.int .i64 0] 35)=W4:=⟨_,rfl⟩
   have hb4:Below w3.heap.size w3 W4:=by rw [← hW4];exact (Below.refl _ _).alloc (Nat.le_refl _) _
   have hy4:Bx W4 w3.heap.size #[.int .i64 k,.int .i32 m,.string tx,.string nm,.string ty,.slice A l.length cap,.string ⟨#[]⟩,.int .i64 0] 35:=by rw [← hW4];exact Bx.new _ _ _
   have hm4:Mv W0 c r.2 w3 W4:=Mv.below hb4 hm.2
   obtain ⟨d2,f2⟩:=hm4.2.op
   obtain ⟨W5,hW5⟩:∃ W5,W4.setCell ⟨c,2,none⟩ (.int .i64 (wrap64 (r.2.op - 1)))=W5:=⟨_,rfl⟩
   have hm5:Mv W0 c r.2.dec W4 W5:=by rw [← hW5];exact hm4.2.dec
   have hy5:Bx W5 w3.heap.size _ _:=(hm5.1.block _ hy4.lt (by simp;omega)).trans hy4
   obtain ⟨a0,a1,a2,a3,a4,a5,a6,a7⟩:=hy5.all_8
   obtain ⟨W6,hW6⟩:∃ W6,W5.alloc (.cells #[.int .i64 k,.int .i32 m,.string tx,.string nm,.string ty,.slice A l.length cap,.string ⟨#[]⟩,.int .i64 0] 35)=W6:=⟨_,rfl⟩
   have hb6:Below W5.heap.size W5 W6:=by rw [← hW6];exact (Below.refl _ _).alloc (Nat.le_refl _) _
   have hs4:=hb4.size
   have hs5:=hm5.1.size
   have hs6:=hb6.size
   have HK5:=(HK.out.below hb4).grown hm5.1 (.inl (by omega))
   have HO6:=OwnE.one HK5 (by omega)
   simp only [aab] at HO6
   rw [hW6] at HO6
   have HBX6:=ke (Bx.next (Bx.grown (Bx.next HBX.out hb4) hm5.1 (by omega)) hb6)
   have hx2:=HBX6.out
   obtain ⟨r0,r1,r2,r3,r4,r5,r6,r7⟩:=hx2.all_8
   have g0:=hx2.fro 0;have g1:=hx2.fro 1;have g2:=hx2.fro 2;have g3:=hx2.fro 3;have g4:=hx2.fro 4;have g5:=hx2.fro 5;have g6:=hx2.fro 6;have g7:=hx2.fro 7
   have hg:=aaw W6 w.heap.size (.int .i64 18) (.int .i32 0) (.string ⟨#[]⟩) (.string ⟨#[35]⟩) (.string ⟨#[]⟩) (.slice (some ⟨W5.heap.size,0,none⟩) 1 1) (.string ⟨#[]⟩) (.int .i64 0)
   have HM6:=ke (((HM.out.trans hm4).trans hm5).trans (Mv.below hb6 hm5.2))
   have HO:=ke HO6
   have HG:=ke hg
   clear hm hbe hm4 hm5 hy4 hy5 hb4 hb6 hx2 hg HO6 HK5
   subst hW4
   simp only [aab]
   go_wp2_with fail
   obtain ⟨z0,z1,z2,z3,z4,z5,z6,z7⟩:=(HBX6.out.to_8 (.int .i64 18) (.int .i32 0) (.string ⟨#[]⟩) (.string ⟨#[35]⟩) (.string ⟨#[]⟩) (.slice (some ⟨W5.heap.size,0,none⟩) 1 1) (.string ⟨#[]⟩) (.int .i64 0)).all_8
   (try simp only [Exit.inBlock,Exit.then])
   refine bodyPost_ret (v:=.agg #[.int .i64 18,.int .i32 0,.string ⟨#[]⟩,.string ⟨#[35]⟩,.string ⟨#[]⟩,.slice (some ⟨W5.heap.size,0,none⟩) 1 1,.string ⟨#[]⟩,.int .i64 0]) (by simp [results,Tryz.results102,go_sem,z0,z1,z2,z3,z4,z5,z6,z7]) rfl ?_
   exact ⟨.ex 18 0 ⟨#[]⟩ ⟨#[35]⟩ ⟨#[]⟩ (.slice (some ⟨W5.heap.size,0,none⟩) 1 1) [_] ⟨#[]⟩ 0,rfl,((HO.out.node 18 0 ⟨#[]⟩ ⟨#[35]⟩ ⟨#[]⟩ (by decide +kernel) (ab4 (acp HBE.out) _ _ _ _ _)).grown HG.out (.inl (by omega))).mono (by omega),Mv.over (Below.refl _ _) HM6.out HG.out (Nat.le_refl _) hlt⟩
theorem signed_3 (n:Nat) (IH:SpecF n) (W0 w:World) (c:Nat) (s:RS) (hv:Vars W0) (h:Rd W0 c s w) (hn:aaj (n+1) .signed s) (h0:s.sees 0 abh=false) (h1:s.sees 0 aig=false) (h2:s.sees 0 aj5=false):Calls Tryz.prog 102 #[.pointer (some ⟨c,0,none⟩)] w (ExC W0 c w (run (n+1) .signed s)):=by
 obtain ⟨r,hr⟩:∃ r,run n .followed s=r:=⟨_,rfl⟩
 have hsig:acz s=none:=by simp [acz,h0,h1,h2]
 have hR:run (n+1) .signed s=r:=by simp only [run,hsig,hr]
 have hen:aaj n .followed s:=by simp only [aaj,Md.rank] at hn ⊢;omega
 have hlt:=h.lt
 have hle0:=h.le
 have T0:Hid (∀ w',Rd W0 c s w'→Calls Tryz.prog 118 #[.pointer (some ⟨c,0,none⟩),.string abh] w' fun e w''=>e=.returned (.bool false)∧w'=w''):=by
  show ∀ w',_
  intro w' h';have:=abo W0 w' c s abh h';rw [h0] at this;exact this
 have T1:Hid (∀ w',Rd W0 c s w'→Calls Tryz.prog 118 #[.pointer (some ⟨c,0,none⟩),.string aig] w' fun e w''=>e=.returned (.bool false)∧w'=w''):=by
  show ∀ w',_
  intro w' h';have:=abo W0 w' c s aig h';rw [h1] at this;exact this
 have T2:Hid (∀ w',Rd W0 c s w'→Calls Tryz.prog 118 #[.pointer (some ⟨c,0,none⟩),.string aj5] w' fun e w''=>e=.returned (.bool false)∧w'=w''):=by
  show ∀ w',_
  intro w' h';have:=abo W0 w' c s aj5 h';rw [h2] at this;exact this
 have HX:Hid (∀ w',Rd W0 c s w'→Calls Tryz.prog 143 #[.pointer (some ⟨c,0,none⟩)] w' (ExC W0 c w' r)):=by
  show ∀ w',_
  intro w' h';have:=IH W0 w' c _ hv h' hen;rw [hr] at this;exact this
 have HRD:=ke h
 rw [hR]
 clear hR hr hsig hen hn IH hv h h0 h1 h2
 go_enter Tryz.func102,Tryz.ntmps102
 go_wp2_with fail
 refine aak (fun W=>Bx W w.heap.size #[.int .i64 0,.int .i32 0,.string ⟨#[]⟩,.string ⟨#[]⟩,.string ⟨#[]⟩,.slice none 0 0,.string ⟨#[]⟩,.int .i64 0] 35∧Mv W0 c s w W∧W.heap.size=w.heap.size+1) ?_ ?_
 ·exact ⟨Bx.new _ _ _,Mv.box HRD.out _,by simp⟩
 rintro W ⟨hx,hmv,hz⟩
 have HX0:=ke hx
 have HM0:=ke hmv
 clear hx hmv
 go_loopw [7] (fun v7 wr=>∃ j:Nat,v7=.int .i64 j∧j≤3∧wr=W) (fun v7 wr=>3 - (intOf v7).toNat)
 case atStart=>exact ⟨0,rfl,by omega,rfl⟩
 case round =>
  obtain ⟨j,rfl,hj,rfl⟩:=hrel
  have hjs:j=0∨j=1∨j=2∨j=3:=by omega
  rcases hjs with rfl|rfl|rfl|rfl
  ·go_wp2_with (go_at_call 118;refine (T0.out _ HM0.out.2).mono ?_;rintro e w1 ⟨rfl,rfl⟩)
   go_roundw
   case rel=>exact ⟨1,by go_num,by omega,by simp⟩
   case measure=>simp [intOf];try omega
  ·go_wp2_with (go_at_call 118;refine (T1.out _ HM0.out.2).mono ?_;rintro e w1 ⟨rfl,rfl⟩)
   go_roundw
   case rel=>exact ⟨2,by go_num,by omega,by simp⟩
   case measure=>simp [intOf];try omega
  ·go_wp2_with (go_at_call 118;refine (T2.out _ HM0.out.2).mono ?_;rintro e w1 ⟨rfl,rfl⟩)
   go_roundw
   case rel=>exact ⟨3,by go_num,by omega,by simp⟩
   case measure=>simp [intOf];try omega
  ·go_wp2_with fail
   refine (HX.out _ HM0.out.2).mono ?_
   clear HX
   rintro e w2 ⟨y,rfl,hk,hm⟩
   have HK:=ke hk
   obtain ⟨k,m,tx,nm,ty,A,cap,l,rfl,_,_,_⟩:=hk
   have HBX:Hid (Bx w2 w.heap.size _ _):=(hm.1.block _ (by omega) (by simp;omega)).trans HX0.out
   have hx2:=HBX.out
   obtain ⟨r0,r1,r2,r3,r4,r5,r6,r7⟩:=hx2.all_8
   have g0:=hx2.fro 0;have g1:=hx2.fro 1;have g2:=hx2.fro 2;have g3:=hx2.fro 3;have g4:=hx2.fro 4;have g5:=hx2.fro 5;have g6:=hx2.fro 6;have g7:=hx2.fro 7
   have hg:=aaw w2 w.heap.size (.int .i64 k) (.int .i32 m) (.string tx) (.string nm) (.string ty) (.slice A l.length cap) (.string ⟨#[]⟩) (.int .i64 0)
   have HM:=ke (HM0.out.trans hm)
   have HG:=ke hg
   clear hm hx2 hg
   simp only [aab]
   go_wp2_with fail
   obtain ⟨z0,z1,z2,z3,z4,z5,z6,z7⟩:=(HBX.out.to_8 (.int .i64 k) (.int .i32 m) (.string tx) (.string nm) (.string ty) (.slice A l.length cap) (.string ⟨#[]⟩) (.int .i64 0)).all_8
   (try simp only [Exit.inBlock,Exit.then])
   refine bodyPost_ret (v:=.agg #[.int .i64 k,.int .i32 m,.string tx,.string nm,.string ty,.slice A l.length cap,.string ⟨#[]⟩,.int .i64 0]) (by simp [results,Tryz.results102,go_sem,z0,z1,z2,z3,z4,z5,z6,z7]) rfl ?_
   exact ⟨_,rfl,(HK.out.grown HG.out (.inl (by omega))).mono (by omega),Mv.over (Below.refl _ _) HM.out HG.out (Nat.le_refl _) hlt⟩
end
section
open Go.RowKit
theorem runesF_len (s:ByteArray):∀ f p,(aih s f p).length≤f
 | 0,p=>Nat.le_refl _
 | f+1,p=>by
  simp only [aih]
  split
  ·simp only [List.length_cons];have:=runesF_len s f (p+(Utf8.decode s p).2);omega
  ·simp
theorem agf:∀ (l:List Nat) (e:Bool) (m:List Nat),ac5 e l=some m→m.length≤l.length
 | [],e,m,h=>by cases e<;>simp [ac5] at h;subst h;simp
 | r :: t,false,m,h=>by
  simp only [ac5] at h
  split at h
  ·have:=agf t true m h;simp;omega
  ·split at h
   ·cases h
   ·simp only [Option.map_eq_some_iff] at h
    obtain ⟨m',h1,rfl⟩:=h
    have:=agf t false m' h1
    simp;omega
 | r :: t,true,m,h=>by
  simp only [ac5] at h
  split at h
  ·simp only [Option.map_eq_some_iff] at h
   obtain ⟨m',h1,rfl⟩:=h
   have:=agf t false m' h1
   simp;omega
  ·split at h
   ·simp only [Option.map_eq_some_iff] at h
    obtain ⟨m',h1,rfl⟩:=h
    have:=agf t false m' h1
    simp;omega
   ·cases h
theorem encs_len (l:List Nat):(encs l).length≤4 * l.length:=by
 induction l with
 | nil=>simp [encs]
 | cons r l ih=>rw [ai8,List.length_append,List.length_cons];have:=(enc_len (r:Int)).2;omega
theorem plainText_len (s:ByteArray):(abf s).length≤4 * s.size:=by
 unfold abf plain
 split
 ·simp
 ·cases h:ac5 false (aid s 0) with
  | none=>simp
  | some m =>
   simp only [Option.map_some,Option.getD_some]
   have h1:=agf _ _ _ h
   have h2:=encs_len m
   have h3:(aid s 0).length≤s.size:=by unfold aid;exact runesF_len s _ _
   omega
theorem first_len (l:List UInt8):(aao l).2.1.length≤4 * l.length:=by
 unfold aao
 split
 ·simp only [List.length_take];omega
 ·split
  ·simp only [List.length_take];omega
  ·split
   ·split
    ·simp only []
     refine Nat.le_trans (plainText_len _) ?_
     have:(ag1 l (aav l)).size≤l.length:=by unfold ag1;simp [ByteArray.size];omega
     omega
    ·simp
   ·simp only [List.length_take];omega
theorem words_texts (l:List UInt8) (a:Nat):∀ x ∈ (ach l a).1,x.t.length≤4 * l.length:=by
 refine ag4 (fun l a r=>∀ x ∈ r.1,x.t.length≤4 * l.length) (fun a=>by simp) (fun l a _ _=>by simp) ?_ _ l a (Nat.le_refl _)
 intro l a hl hn ih x hx
 rcases List.mem_cons.1 hx with rfl|hx
 ·exact first_len l
 ·have:=ih x hx
  simp only [List.length_drop] at this
  omega
theorem all_texts (s:ByteArray):∀ x ∈ afv s,x.t.length≤32000:=by
 intro x hx
 unfold afv at hx
 split at hx
 ·cases hx
 ·rename_i h
  have:=words_texts _ _ x hx
  have hs:s.data.toList.length=s.size:=by simp
  simp only [List.length_drop,hs] at this
  omega
def letP (t:ByteArray):Pr:=if acg (t.extract 0 (min t.size 20))=true then .nm t else if ab8 (t.extract 0 (min t.size 20))=true then .cl t else .fx t
def afo (k:Nat) (t:ByteArray):Pr:=if k=1 then letP t else if k=2 then .nu t else if k=3 then .qu t else .fx t
def afr (x:Wd):Pl:=(afo x.k ⟨x.t.toArray⟩,(x.a:Int))
def RS0 (s:ByteArray):RS:=⟨(afv s).map afr,s.size,0,aie s,allA s,0,0⟩
theorem part_text (k:Nat) (t:ByteArray):(afo k t).text=t:=by
 unfold afo letP
 repeat' split
 all_goals rfl
theorem letters_any (w:World) (t:ByteArray) (ht:t.size≤1000000):Calls Tryz.prog 70 #[.string t] w fun e w'=>e=.returned (letP t).V∧Below w.heap.size w w':=by
 obtain ⟨m,hm⟩:∃ m,min t.size 20=m:=⟨_,rfl⟩
 have hmI:min (t.size:Int) 20=(m:Int):=by rw [← hm];omega
 have hml:m≤t.size:=by omega
 have hm0:(0:Int)≤(m:Int):=by omega
 have hmL:(m:Int)≤(t.size:Int):=by omega
 obtain ⟨s,hs⟩:∃ s,t.extract 0 m=s:=⟨_,rfl⟩
 have hss:s.size≤maxLen:=by rw [← hs];simp [ByteArray.size_extract];unfold maxLen;omega
 have HN:=ke (akg s w hss)
 have HC:Hid (∀ w',Calls Tryz.prog 116 #[.string s] w' fun e w''=>e=.returned (.bool (ab8 s))∧Below w'.heap.size w' w''):=by
  show ∀ w',_
  intro w';exact ahm s w' hss
 have hR:letP t=if acg s=true then .nm t else if ab8 s=true then .cl t else .fx t:=by unfold letP;rw [hm,hs]
 rw [hR]
 clear hR
 cases h1:acg s with
 | true =>
  rw [h1] at HN
  simp only [if_true,Pr.V]
  clear h1 HC hm
  go_enter Tryz.func70,Tryz.ntmps70
  go_wp2_with fail
  refine HN.out.mono ?_
  clear HN
  rintro e w1 ⟨rfl,hb⟩
  have HB:=ke hb
  clear hb
  go_wp2_with fail
  go_ret
  exact ⟨rfl,HB.out⟩
 | false =>
  rw [h1] at HN
  cases h2:ab8 s with
  | true =>
   rw [h2] at HC
   simp only [if_true,Bool.false_eq_true,if_false,Pr.V]
   clear h1 h2 hm
   go_enter Tryz.func70,Tryz.ntmps70
   go_wp2_with fail
   refine HN.out.mono ?_
   clear HN
   rintro e w1 ⟨rfl,hb⟩
   have HB:=ke hb
   clear hb
   go_wp2_with fail
   refine (HC.out _).mono ?_
   clear HC
   rintro e w2 ⟨rfl,hb⟩
   have HB2:=ke (HB.out.trans (hb.mono HB.out.size))
   clear hb
   go_wp2_with fail
   go_ret
   exact ⟨rfl,HB2.out⟩
  | false =>
   rw [h2] at HC
   simp only [Bool.false_eq_true,if_false,Pr.V]
   clear h1 h2 hm
   go_enter Tryz.func70,Tryz.ntmps70
   go_wp2_with fail
   refine HN.out.mono ?_
   clear HN
   rintro e w1 ⟨rfl,hb⟩
   have HB:=ke hb
   clear hb
   go_wp2_with fail
   refine (HC.out _).mono ?_
   clear HC
   rintro e w2 ⟨rfl,hb⟩
   have HB2:=ke (HB.out.trans (hb.mono HB.out.size))
   clear hb
   go_wp2_with fail
   go_ret
   exact ⟨rfl,HB2.out⟩
theorem part_any (w:World) (k:Nat) (t:ByteArray) (a:Int) (ht:t.size≤1000000):Calls Tryz.prog 41 #[.agg #[.int .i64 k,.string t,.int .i64 a]] w fun e w'=>e=.returned (afo k t).V∧Below w.heap.size w w':=by
 obtain ⟨ki,hki⟩:∃ ki:Int,(k:Int)=ki:=⟨_,rfl⟩
 rw [hki]
 obtain ⟨W1,hW1⟩:∃ W,w.alloc (.cells #[.int .i64 ki,.string t,.int .i64 a] 83)=W:=⟨_,rfl⟩
 have hb:Below w.heap.size w W1:=by rw [← hW1];exact (Below.refl _ _).alloc (Nat.le_refl _) _
 have hx:Bx W1 w.heap.size #[.int .i64 ki,.string t,.int .i64 a] 83:=by rw [← hW1];exact Bx.new _ _ _
 have c0:W1.cell? ⟨w.heap.size,0,none⟩=some (.int .i64 ki):=hx.cell 0
 have c1:W1.cell? ⟨w.heap.size,1,none⟩=some (.string t):=hx.cell 1
 have HB:=ke hb
 clear hx hb
 by_cases h1:k=1
 ·have hk1:ki=1:=by omega
  subst hk1 h1
  clear hki
  have HL:=ke (letters_any W1 t ht)
  have HR:=ke (show afo 1 t=letP t from rfl)
  rw [HR.out]
  go_enter Tryz.func41,Tryz.ntmps41
  go_wp2_with fail
  refine HL.out.mono ?_
  clear HL
  rintro e w2 ⟨rfl,hb⟩
  have HB2:=ke (HB.out.trans (hb.mono HB.out.size))
  clear hb
  obtain ⟨u,hu⟩:∃ u,(letP t).V=u:=⟨_,rfl⟩
  rw [hu]
  have HU:=ke hu
  clear hu
  go_wp2_with fail
  go_ret
  exact ⟨by rw [HU.out];rfl,HB2.out⟩
 have e1:(ki == 1)=false:=by rw [beq_eq_false_iff_ne];omega
 by_cases h2:k=2
 ·have hk2:ki=2:=by omega
  subst hk2 h2
  clear hki
  have HR:=ke (show afo 2 t=.nu t from rfl)
  rw [HR.out]
  simp only [Pr.V]
  clear h1
  go_enter Tryz.func41,Tryz.ntmps41
  go_wp2_with fail
  go_ret
  exact ⟨rfl,HB.out⟩
 have e2:(ki == 2)=false:=by rw [beq_eq_false_iff_ne];omega
 by_cases h3:k=3
 ·have hk3:ki=3:=by omega
  subst hk3 h3
  clear hki
  have HR:=ke (show afo 3 t=.qu t from rfl)
  rw [HR.out]
  simp only [Pr.V]
  clear h1 h2
  go_enter Tryz.func41,Tryz.ntmps41
  go_wp2_with fail
  go_ret
  exact ⟨rfl,HB.out⟩
 have e3:(ki == 3)=false:=by rw [beq_eq_false_iff_ne];omega
 have HR:=ke (show afo k t=.fx t by unfold afo;rw [if_neg h1,if_neg h2,if_neg h3])
 rw [HR.out]
 simp only [Pr.V]
 clear h1 h2 h3 hki
 go_enter Tryz.func41,Tryz.ntmps41
 go_wp2_with fail
 go_ret
 exact ⟨rfl,HB.out⟩
end
end Go.Proofs.YtddnnohfbagbnaaGreatDoor
