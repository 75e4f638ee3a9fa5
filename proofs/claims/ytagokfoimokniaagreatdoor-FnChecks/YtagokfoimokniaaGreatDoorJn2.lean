/- Rules that come in: their size is told, they are copied into new memory, two are compared. The program's iterator over a rule's keys, and those who range over it. Are all of them keys, and do they rise: the program's loops over its iterator. What keeps a rule from being one: the specification's code and the program's. The program's RuleFault. Refs that come in: their size is told, they are copied, two lists are compared. Outs that come in: their size is told, they are copied, two lists are compared. Outs and transactions that come in are copied into new memory. Lists of outs that come in are copied into new memory. Transactions that come in: two are compared, their size is told, they are copied. Transactions that come in are copied into new memory. Coins that come in: their size is told, they are copied into new memory, two lists are compared. Lists of coins that come in are copied into new memory; two lists are compared. Coins of the call's own: their row and their keys' rows; marks are written into them, and read back. The specification's faults of refs and outs. The specification's fault of a transaction. The specification's fault of coins. -/
import Derived.Test.YtagokfoimokniaaGreatDoorJn1
import Derived.RangeFuncFrom
import Derived.RangeFuncBox
import Derived.RangeFuncCalls
import Derived.RangeFuncLeaves
import Derived.Shelf.Abstract
import Derived.WalkKit
import Derived.OwnWalkIn
import Derived.TacticsInMore
import Derived.LoopNIn
import Derived.LoopIn
import Derived.OneCell
namespace Go.Proofs.YtagokfoimokniaaGreatDoor
open Go.RowKit Go.Maps Go.WideMaps
section
variable {w w2 W v:World} {b B:Nat} {c0 c1 c2:Value} {t:TypeId}
theorem cells3 (h:v.heap[b]? =some (.cells #[c0,c1,c2] t (0,0))):v.cell? ⟨b,0,none⟩=some c0∧v.cell? ⟨b,1,none⟩=some c1∧v.cell? ⟨b,2,none⟩=some c2:=
 ⟨by unfold World.cell?;rw[h];rfl,by unfold World.cell?;rw[h];rfl,by unfold World.cell?;rw[h];rfl⟩
theorem set3 (h:W.heap[b]? =some (.cells #[c0,c1,c2] t (0,0))) (v0 v1 v2:Value):
 (((W.setCell ⟨b,0,none⟩ v0).setCell ⟨b,1,none⟩ v1).setCell ⟨b,2,none⟩ v2).heap[b]? =some (.cells #[v0,v1,v2] t (0,0)):=by
 have h1:(W.setCell ⟨b,0,none⟩ v0).heap[b]? =some (.cells #[v0,c1,c2] t (0,0)):=by
  have:=Joins.block_setCell (i:=0) h v0
  simpa using this
 have h2:((W.setCell ⟨b,0,none⟩ v0).setCell ⟨b,1,none⟩ v1).heap[b]? =some (.cells #[v0,v1,c2] t (0,0)):=by
  have:=Joins.block_setCell (i:=1) h1 v1
  simpa using this
 have:=Joins.block_setCell (i:=2) h2 v2
 simpa using this
theorem three_set (h:W.heap[b]? =some (.cells #[c0,c1,c2] t (0,0))) (v0 v1 v2:Value):
 (W.setCell ⟨b,0,none⟩ v0).cell? ⟨b,0,none⟩=some v0∧((W.setCell ⟨b,0,none⟩ v0).setCell ⟨b,1,none⟩ v1).cell? ⟨b,1,none⟩=some v1∧(((W.setCell ⟨b,0,none⟩ v0).setCell ⟨b,1,none⟩ v1).setCell ⟨b,2,none⟩ v2).cell? ⟨b,2,none⟩=some v2:=by
 have h1:(W.setCell ⟨b,0,none⟩ v0).heap[b]? =some (.cells #[v0,c1,c2] t (0,0)):=by
  have:=Joins.block_setCell (i:=0) h v0
  simpa using this
 have h2:((W.setCell ⟨b,0,none⟩ v0).setCell ⟨b,1,none⟩ v1).heap[b]? =some (.cells #[v0,v1,c2] t (0,0)):=by
  have:=Joins.block_setCell (i:=1) h1 v1
  simpa using this
 exact ⟨(cells3 h1).1,(cells3 h2).2.1,(cells3 (set3 h v0 v1 v2)).2.2⟩
theorem below_set3 (h:Below B w W) (hb:B≤b) (v0 v1 v2:Value):Below B w (((W.setCell ⟨b,0,none⟩ v0).setCell ⟨b,1,none⟩ v1).setCell ⟨b,2,none⟩ v2):=
 ((h.setCell (p:=⟨b,0,none⟩) hb _).setCell (p:=⟨b,1,none⟩) hb _).setCell (p:=⟨b,2,none⟩) hb _
theorem row_set3 {base n size:Nat} {e:TypeId} {v:Value} {xs:List Value} (h:W.ownsRow base e size v n xs) (hb:b<base) (v0 v1 v2:Value):(((W.setCell ⟨b,0,none⟩ v0).setCell ⟨b,1,none⟩ v1).setCell ⟨b,2,none⟩ v2).ownsRow base e size v n xs:=
 ownsRow_setCell_below (ownsRow_setCell_below (ownsRow_setCell_below h (a:=⟨b,0,none⟩) hb _) (a:=⟨b,1,none⟩) hb _) (a:=⟨b,2,none⟩) hb _
end
end Go.Proofs.YtagokfoimokniaaGreatDoor
namespace Go.Proofs.YtagokfoimokniaaGreatDoor
open Go.RowKit Go.Shelf Go.Maps Go.WideMaps
attribute [local go_sem] Oper.semAt_some
theorem take_more {α:Type} {zs:List α} {k:Nat} {x:α} (h:zs[k]? =some x):zs.take (k+1)=zs.take k++[x]:=by rw[List.take_add_one,h];rfl
set_option maxRecDepth 100000 in
set_option maxHeartbeats 2000000 in
theorem each1_in {α:Type} (enc:α→Int) (F:Fence) (n:Nat) (hf:F.fn 160) (hro:F.round=none) (hn:1≤n) (lp Bs len cap:Nat) (a:Option Addr) (zs:List α) (w0:World) (hlen:len≤1048576) (hI:IAt w0 a len (zs.map enc)) (J Jx:List α→World→Prop)
 (hY:∀pre x W,J pre W→pre.length<len→YieldAt F (n-1) Tryz.prog lp #[.int .i64 (enc x)] W fun e W'=>
  (e= .returned (.bool true)∧J (pre++[x]) W'∧Below w0.heap.size W W')∨(e= .returned (.bool false)∧Jx (pre++[x]) W'))
 (W:World) (hB:Below w0.heap.size w0 W) (hBs:W.cell? ⟨Bs,0,none⟩=some (.slice a len cap)) (h0:J [] W):
 CallsIn F n Tryz.prog 160 #[.func (.yield lp) #[] #[],.pointer (some ⟨Bs,0,none⟩)] W fun e W'=>(∃v,e= .returned v)∧
  ((∃ys,ys=zs∧J ys W')∨(∃pre,pre<+:zs∧Jx pre W')):=by
 have HI:Hid (IAt w0 a len (zs.map enc)):=hI
 have hzl:zs.length=len:=by have:=hI.1;simpa using this
 have HZ:Hid (zs.length=len):=hzl
 have HY:Hid (∀pre x W,J pre W→pre.length<len→YieldAt F (n-1) Tryz.prog lp #[.int .i64 (enc x)] W fun e W'=>
  (e= .returned (.bool true)∧J (pre++[x]) W'∧Below w0.heap.size W W')∨(e= .returned (.bool false)∧Jx (pre++[x]) W')):=hY
 clear hI hY hzl
 refine callsIn_of_wp Tryz.func160 rfl hf ?_ hro
 simp only[Tryz.ntmps160,List.size_toArray,List.length_cons,List.length_nil,Nat.reduceAdd,Nat.reduceSub,Array.replicate_succ,Array.replicate_zero,List.push_toArray,List.append_toArray,List.nil_append,List.cons_append]
 gi_wp2
 gi_loopw [8] (fun i wr=>∃k:Nat,k≤len∧i= .int .i64 k∧J (zs.take k) wr∧Below w0.heap.size w0 wr)
  (fun i _=>len-(intOf i).toNat)
 case atStart=>exact ⟨0,Nat.zero_le _,rfl,by simpa using h0,hB⟩
 case round=>
  obtain ⟨k,hk,rfl,hJs,hnx⟩:=hrel
  by_cases hlt:k<len
  ·rcases HI.out.2 with h00|⟨b,off,ha,hb,hc⟩
   ·omega
   subst ha
   obtain ⟨x,hx⟩:∃x,zs[k]? =some x:=⟨_,List.getElem?_eq_getElem (by rw[HZ.out];exact hlt)⟩
   have hcx:wr.cell? ⟨b,off+k,none⟩=some (.int .i64 (enc x)):=by
    rw[(hnx.cell (p:=⟨b,off+k,none⟩) hb).trans (hc k hlt)]
    simp[List.getD,hx]
   obtain ⟨fn,tmps,assign,body,hy,hR⟩:=HY.out _ x wr hJs (by rw[List.length_take,HZ.out];omega)
   have hki:(k:Int)<(len:Int):=by omega
   clear hc
   gi_wp2
   refine hR.mono ?_
   rintro e W3 (⟨rfl,hJ3,hk3⟩|⟨rfl,hJx3⟩)
   ·gi_wp2
    go_roundw
    case rel=>exact ⟨k+1,by omega,by go_num,by rw[take_more hx];exact hJ3,hnx.trans hk3⟩
    case measure=>simp[intOf];omega
   ·gi_wp2
    refine bodyPost_ret (results_none rfl _ _ _) rfl ?_
    exact ⟨⟨_,rfl⟩,.inr ⟨_,by rw[←take_more hx];exact List.take_prefix _ _,hJx3⟩⟩
  ·obtain rfl:k=len:=by omega
   gi_wp2
   go_end0
   exact ⟨⟨_,rfl⟩,.inl ⟨_,List.take_of_length_le (by rw[HZ.out];exact Nat.le_refl _),hJs⟩⟩
theorem each_stops {α:Type} (enc:α→Int) (F:Fence) (n:Nat) (hf:F.fn 160) (hro:F.round=none) (hn:1≤n) (Bs len cap:Nat) (a:Option Addr) (zs:List α) (w0 w:World) (hlen:len≤1048576) (hI:IAt w0 a len (zs.map enc)) (hB:Below w0.heap.size w0 w) (hBl:Bs<w.heap.size) (hBs:w.cell? ⟨Bs,0,none⟩=some (.slice a len cap)):
 SeqStopsK F n Tryz.prog 160 #[.pointer (some ⟨Bs,0,none⟩)] (fun x:α=>#[Value.int .i64 (enc x)]) (Below w0.heap.size) (fun ys=>ys=zs) (fun pre=>pre<+:zs) len w:=fun l J Jx W hW _ _ hY h0=>
 each1_in enc F n hf hro hn l Bs len cap a zs w0 hlen hI J Jx hY W (hB.trans (hW.mono hB.size)) ((hW.cell (p:=⟨Bs,0,none⟩) hBl).trans hBs) h0
theorem eachKey_any (a:Option Addr) (n cap:Nat) (x y:Int) (w:World):
 Calls Tryz.prog 136 #[.agg #[.slice a n cap,.int .i64 x,.int .i64 y]] w fun e w'=>e= .returned (.func (.func 160) #[] #[.pointer (some ⟨w.heap.size,0,none⟩)])∧w'=w.alloc (.cells #[.slice a n cap,.int .i64 x,.int .i64 y] 50):=by
 have hmf:∀(fn:Fn) (first cap:Array Value) (w:World),(Instr.makeFunc fn first cap).run Tryz.prog w= .ok (.func fn first cap) w:=fun _ _ _ _=>rfl
 go_enter Tryz.func136,Tryz.ntmps136
 go_wp2
 go_ret
 exact ⟨rfl,rfl⟩
end Go.Proofs.YtagokfoimokniaaGreatDoor
namespace Go.Proofs.YtagokfoimokniaaGreatDoor
open Go.RowKit Go.Shelf Go.Maps Go.WideMaps
attribute [local go_sem] Oper.semAt_some
theorem new1 (W:World) (v:Value) (t:TypeId):(W.alloc (.cells #[v] t)).cell? ⟨W.heap.size,0,none⟩=some v∧(W.alloc (.cells #[v] t)).frozen? ⟨W.heap.size,0,none⟩=false:=
 ⟨by unfold World.cell?;rw[heap_alloc_new];rfl,Joins.unfrozen_of_block (heap_alloc_new _ _) 0⟩
theorem kept1 {W:World} {a:Addr} {v:Value} (o:Obj) (h:W.cell? a=some v):(W.alloc o).cell? a=some v:=cell_kept h (World.grownBy_alloc W o none) (fun r e=>by cases e)
theorem kept1f {W:World} {a:Addr} {v:Value} (o:Obj) (h:W.cell? a=some v) (hf:W.frozen? a=false):(W.alloc o).frozen? a=false:=(frozen_kept h (World.grownBy_alloc W o none) (fun r e=>by cases e)).trans hf
def allK (l:List Int):Bool:=l.all fun k=>inB k 1 999
theorem allK_snoc {pre:List Int} {x:Int} (h:allK pre=true) (hx:inB x 1 999=true):allK (pre++[x])=true:=by simp[allK] at*;exact ⟨h,hx⟩
theorem allK_bad {pre:List Int} {x:Int} (hx:inB x 1 999=false):allK (pre++[x])=false:=by simp[allK,hx]
theorem allK_pre {pre l:List Int} (h:pre<+:l) (hb:allK pre=false):allK l=false:=by
 obtain ⟨t,rfl⟩:=h
 unfold allK at*
 rw[List.all_append,hb];rfl
def riseB:Int→List Int→Bool
 |_,[]=>true
 |p,k::t=>decide (p<k)&&riseB k t
def lastK:Int→List Int→Int
 |p,[]=>p
 |_,k::t=>lastK k t
theorem lastK_snoc (p:Int) (l:List Int) (x:Int):lastK p (l++[x])=x:=by
 induction l generalizing p with
 |nil=>rfl
 |cons k t ih=>exact ih k
theorem riseB_snoc (p:Int) (l:List Int) (x:Int):riseB p (l++[x])=(riseB p l&&decide (lastK p l<x)):=by
 induction l generalizing p with
 |nil=>simp only[List.nil_append,riseB,lastK,Bool.and_true,Bool.true_and];rfl
 |cons k t ih=>simp only[List.cons_append,riseB,lastK,ih,Bool.and_assoc];rfl
theorem riseB_pre {pre l:List Int} (h:pre<+:l) {p:Int} (hb:riseB p pre=false):riseB p l=false:=by
 obtain ⟨t,rfl⟩:=h
 induction pre generalizing p with
 |nil=>cases hb
 |cons k r ih=>
  simp only[List.cons_append,riseB] at*
  cases hd:decide (p<k)
  ·rfl
  ·rw[hd,Bool.true_and] at hb
   rw[Bool.true_and]
   exact ih hb
set_option maxRecDepth 100000 in
set_option maxHeartbeats 2000000 in
theorem areKeys_any (Bs len cap:Nat) (a:Option Addr) (l:List Int) (w0 w:World) (hlen:len≤1048576) (hI:IAt w0 a len l) (hB:Below w0.heap.size w0 w) (hBl:Bs<w.heap.size) (hBs:w.cell? ⟨Bs,0,none⟩=some (.slice a len cap)):
 Calls Tryz.prog 135 #[.func (.func 160) #[] #[.pointer (some ⟨Bs,0,none⟩)]] w fun e w'=>e= .returned (.bool (allK l))∧Below w.heap.size w w':=by
 obtain ⟨r,hr⟩:∃r,r=allK l:=⟨_,rfl⟩
 rw[←hr]
 refine (callsIn_wide (n:=3)).1 ?_
 refine callsIn_of_wp_marks Tryz.func135 rfl trivial ?_ rfl
 simp only[Tryz.ntmps135,List.size_toArray,List.length_cons,List.length_nil,Nat.reduceAdd,Nat.reduceSub,Array.replicate_succ,Array.replicate_zero,List.push_toArray,List.append_toArray,List.nil_append,List.cons_append]
 gi_wp2
 have c0:=new1 w (.bool false) 4
 have hB0:Below w.heap.size w (w.alloc (.cells #[.bool false] 4)):=below_box _
 have hsz:=hB.size
 refine wpIn_rangeFunc_ownF rfl (by omega) (gf:=160) (lb:=#[.pointer (some ⟨Bs,0,none⟩)]) rfl trivial (enters_of Tryz.func160 (by kernel_rfl) rfl)
  (each_stops (fun x:Int=>x) Fence.wide (3-1) trivial rfl (by omega) Bs len cap a l w0 _ hlen (by simpa using hI) (hB.trans (hB0.mono hsz)) (by simp;omega) ((hB0.cell (p:=⟨Bs,0,none⟩) hBl).trans hBs)) belowK_t (belowK_b (by simp;omega)) (Below.refl _ _) (fun _=>rfl)
  (fun pre W=>(allK pre=true∧W.cell? ⟨w.heap.size,0,none⟩=some (.bool false)∧W.frozen? ⟨w.heap.size,0,none⟩=false)∧Below w.heap.size w W)
  (fun c pre W=>(c= .ret∧allK pre=false∧W.cell? ⟨w.heap.size,0,none⟩=some (.bool false))∧Below w.heap.size w W)
  (OwnFrom.and (Own.from (fun s A B row hs hg hr=>⟨hs.1,cell_kept hs.2.1 hg hr,(frozen_kept hs.2.1 hg hr).trans hs.2.2⟩) _) (ownFrom_below (Nat.le_refl _) (by simp)))
  (fun c=>OwnFrom.and (Own.from (fun s A B row hs hg hr=>⟨hs.1,hs.2.1,cell_kept hs.2.2 hg hr⟩) _) (ownFrom_below (Nat.le_refl _) (by simp)))
  ⟨⟨rfl,c0.1,c0.2⟩,hB0⟩
  (fun x=>{tmps:=#[.func (.func 160) #[] #[.pointer (some ⟨Bs,0,none⟩)],undef,.pointer (some ⟨w.heap.size,0,none⟩),.int .i64 x,.func (.func 160) #[] #[.pointer (some ⟨Bs,0,none⟩)],.int .i64 x,undef,undef,undef],defers:=[]}) ?assign ?body ?done ?stop
 case assign=>
  intro l x W K hK
  gi_wp2
  exact hK
 case body=>
  rintro l pre x W ⟨⟨hp,hcr,hfr⟩,hBB⟩ _
  obtain ⟨kb,hkb⟩:∃kb,kb=inB x 1 999:=⟨_,rfl⟩
  have hkey:∀v,Calls Tryz.prog 110 #[.int .i64 x] v fun e w'=>e= .returned (.bool kb)∧w'=v:=fun v=>by rw[hkb];exact isKey_any x v
  have HKB:Hid (kb=inB x 1 999):=hkb
  clear hkb
  cases kb
  ·gi_wp2_with (refine ⟨trivial,?_⟩;gi_at_call 110;refine (CallsIn.inRound l (callsIn_wide.2 (hkey _))).mono ?_;rintro e w' ⟨rfl,hw⟩;have hw2:=hw.symm;subst hw2)
   exact ⟨KeepsOthers.setCell _ _ _,⟨rfl,allK_bad HKB.out.symm,World.cell?_setCell_same' _ _ _ (by rw[hcr];rfl)⟩,hBB.setCell (p:=⟨w.heap.size,0,none⟩) (Nat.le_refl _) _⟩
  ·gi_wp2_with (refine ⟨trivial,?_⟩;gi_at_call 110;refine (CallsIn.inRound l (callsIn_wide.2 (hkey _))).mono ?_;rintro e w' ⟨rfl,hw⟩;have hw2:=hw.symm;subst hw2)
   exact ⟨KeepsOthers.refl _,Below.refl _ _,⟨allK_snoc hp HKB.out.symm,hcr,hfr⟩,hBB⟩
 case done=>
  rintro D ys W hD rfl ⟨⟨hne,hcr,hfr⟩,hBB⟩ hK
  gi_wp2
  have hK':=(KeepsOthers.setCell W ⟨w.heap.size,0,none⟩ (.bool true)).same D _ hK rfl
  refine ⟨by simp,.inl ⟨_,_,rfl,run_takeDeferred hK',?_⟩⟩
  have hc5:=cell_kept (World.cell?_setCell_same' W ⟨w.heap.size,0,none⟩ (.bool true) (by rw[hcr];rfl)) (grownBy_putObj' _ D (.deferred none)) (fun r e=>by cases e;exact ⟨_,hK',rfl⟩)
  refine ⟨.bool true,?_,by rw[hr,hne],(hBB.setCell (p:=⟨w.heap.size,0,none⟩) (Nat.le_refl _) _).trans (belowK_b (w:=w) (Nat.le_refl _) _ D _ _ (by simp at hD;omega) hK' rfl rfl)⟩
  simp[results,Tryz.results135,go_sem,hc5]
 case stop=>
  rintro D c pre W hD hpre ⟨⟨rfl,hin,hcr⟩,hBB⟩ hK
  gi_wp2
  refine ⟨by simp,.inl ⟨_,_,rfl,run_takeDeferred hK,?_⟩⟩
  have hc5:=cell_kept hcr (grownBy_putObj' _ D (.deferred none)) (fun r e=>by cases e;exact ⟨_,hK,rfl⟩)
  refine ⟨.bool false,?_,by rw[hr,allK_pre hpre hin],hBB.trans (belowK_b (w:=w) (Nat.le_refl _) W D _ _ (by simp at hD;omega) hK rfl rfl)⟩
  simp[results,Tryz.results135,go_sem,hc5]
set_option maxRecDepth 100000 in
set_option maxHeartbeats 2000000 in
theorem keysRise_any (Bs len cap:Nat) (a:Option Addr) (l:List Int) (w0 w:World) (hlen:len≤1048576) (hI:IAt w0 a len l) (hB:Below w0.heap.size w0 w) (hBl:Bs<w.heap.size) (hBs:w.cell? ⟨Bs,0,none⟩=some (.slice a len cap)):
 Calls Tryz.prog 137 #[.func (.func 160) #[] #[.pointer (some ⟨Bs,0,none⟩)]] w fun e w'=>e= .returned (.bool (riseB 0 l))∧Below w.heap.size w w':=by
 obtain ⟨r,hr⟩:∃r,r=riseB 0 l:=⟨_,rfl⟩
 rw[←hr]
 refine (callsIn_wide (n:=3)).1 ?_
 refine callsIn_of_wp_marks Tryz.func137 rfl trivial ?_ rfl
 simp only[Tryz.ntmps137,List.size_toArray,List.length_cons,List.length_nil,Nat.reduceAdd,Nat.reduceSub,Array.replicate_succ,Array.replicate_zero,List.push_toArray,List.append_toArray,List.nil_append,List.cons_append]
 gi_wp2
 have c0:=new1 w (.bool false) 4
 have c1:=new1 (w.alloc (.cells #[.bool false] 4)) (.int .i64 0) 2
 simp only[World.size_alloc] at c1
 have hB0:Below w.heap.size w ((w.alloc (.cells #[.bool false] 4)).alloc (.cells #[.int .i64 0] 2)):=below_box2 _ _
 have hsz:=hB.size
 refine wpIn_rangeFunc_ownF rfl (by omega) (gf:=160) (lb:=#[.pointer (some ⟨Bs,0,none⟩)]) rfl trivial (enters_of Tryz.func160 (by kernel_rfl) rfl)
  (each_stops (fun x:Int=>x) Fence.wide (3-1) trivial rfl (by omega) Bs len cap a l w0 _ hlen (by simpa using hI) (hB.trans (hB0.mono hsz)) (by simp;omega) ((hB0.cell (p:=⟨Bs,0,none⟩) hBl).trans hBs)) belowK_t (belowK_b (by simp;omega)) (Below.refl _ _) (fun _=>rfl)
  (fun pre W=>(riseB 0 pre=true∧(W.cell? ⟨w.heap.size,0,none⟩=some (.bool false)∧W.frozen? ⟨w.heap.size,0,none⟩=false)∧W.cell? ⟨w.heap.size+1,0,none⟩=some (.int .i64 (lastK 0 pre))∧W.frozen? ⟨w.heap.size+1,0,none⟩=false)∧Below w.heap.size w W)
  (fun c pre W=>(c= .ret∧riseB 0 pre=false∧W.cell? ⟨w.heap.size,0,none⟩=some (.bool false))∧Below w.heap.size w W)
  (OwnFrom.and (Own.from (fun s A B row hs hg hr=>⟨hs.1,⟨cell_kept hs.2.1.1 hg hr,(frozen_kept hs.2.1.1 hg hr).trans hs.2.1.2⟩,cell_kept hs.2.2.1 hg hr,(frozen_kept hs.2.2.1 hg hr).trans hs.2.2.2⟩) _) (ownFrom_below (Nat.le_refl _) (by simp;omega)))
  (fun c=>OwnFrom.and (Own.from (fun s A B row hs hg hr=>⟨hs.1,hs.2.1,cell_kept hs.2.2 hg hr⟩) _) (ownFrom_below (Nat.le_refl _) (by simp;omega)))
  ⟨⟨rfl,⟨kept1 _ c0.1,kept1f _ c0.1 c0.2⟩,c1.1,c1.2⟩,hB0⟩
  (fun x=>{tmps:=#[.func (.func 160) #[] #[.pointer (some ⟨Bs,0,none⟩)],undef,.pointer (some ⟨w.heap.size,0,none⟩),.pointer (some ⟨w.heap.size+1,0,none⟩),.int .i64 x,.func (.func 160) #[] #[.pointer (some ⟨Bs,0,none⟩)],.int .i64 x,undef,undef,undef,undef],defers:=[]}) ?assign ?body ?done ?stop
 case assign=>
  intro l x W K hK
  gi_wp2
  exact hK
 case body=>
  rintro l pre x W ⟨⟨hp,⟨hcr,hfr⟩,hcl,hfl⟩,hBB⟩ _
  obtain ⟨q,hq⟩:∃q,q=lastK 0 pre:=⟨_,rfl⟩
  rw[←hq] at hcl
  by_cases hx:x≤q
  ·gi_wp2
   exact ⟨KeepsOthers.setCell _ _ _,⟨rfl,by rw[riseB_snoc,←hq,decide_eq_false (by omega),Bool.and_false],World.cell?_setCell_same' _ _ _ (by rw[hcr];rfl)⟩,hBB.setCell (p:=⟨w.heap.size,0,none⟩) (Nat.le_refl _) _⟩
  ·gi_wp2
   exact ⟨KeepsOthers.setCell _ _ _,(Below.refl _ _).setCell (p:=⟨w.heap.size+1,0,none⟩) (show _≤w.heap.size+1 by omega) _,⟨by rw[riseB_snoc,←hq,hp,decide_eq_true (by omega)];rfl,⟨(World.cell?_of_block (Below.heap_setCell _ ⟨w.heap.size+1,0,none⟩ _ w.heap.size (show w.heap.size≠w.heap.size+1 by omega))).trans hcr,by rw[World.frozen?_setCell];exact hfr⟩,by rw[lastK_snoc];exact World.cell?_setCell_same' _ _ _ (by rw[hcl];rfl),by rw[World.frozen?_setCell];exact hfl⟩,hBB.setCell (p:=⟨w.heap.size+1,0,none⟩) (show _≤w.heap.size+1 by omega) _⟩
 case done=>
  rintro D ys W hD rfl ⟨⟨hne,⟨hcr,hfr⟩,_⟩,hBB⟩ hK
  gi_wp2
  have hK':=(KeepsOthers.setCell W ⟨w.heap.size,0,none⟩ (.bool true)).same D _ hK rfl
  refine ⟨by simp,.inl ⟨_,_,rfl,run_takeDeferred hK',?_⟩⟩
  have hc5:=cell_kept (World.cell?_setCell_same' W ⟨w.heap.size,0,none⟩ (.bool true) (by rw[hcr];rfl)) (grownBy_putObj' _ D (.deferred none)) (fun r e=>by cases e;exact ⟨_,hK',rfl⟩)
  refine ⟨.bool true,?_,by rw[hr,hne],(hBB.setCell (p:=⟨w.heap.size,0,none⟩) (Nat.le_refl _) _).trans (belowK_b (w:=w) (Nat.le_refl _) _ D _ _ (by simp at hD;omega) hK' rfl rfl)⟩
  simp[results,Tryz.results137,go_sem,hc5]
 case stop=>
  rintro D c pre W hD hpre ⟨⟨rfl,hin,hcr⟩,hBB⟩ hK
  gi_wp2
  refine ⟨by simp,.inl ⟨_,_,rfl,run_takeDeferred hK,?_⟩⟩
  have hc5:=cell_kept hcr (grownBy_putObj' _ D (.deferred none)) (fun r e=>by cases e;exact ⟨_,hK,rfl⟩)
  refine ⟨.bool false,?_,by rw[hr,riseB_pre hpre hin],hBB.trans (belowK_b (w:=w) (Nat.le_refl _) W D _ _ (by simp at hD;omega) hK rfl rfl)⟩
  simp[results,Tryz.results137,go_sem,hc5]
end Go.Proofs.YtagokfoimokniaaGreatDoor
namespace Go.Proofs.YtagokfoimokniaaGreatDoor
open Go.RowKit Go.Shelf Go.Maps Go.WideMaps
def ruleR (l:List Int) (x y:Int):Int:=
 if inB l.length 1 3=false then 2 else if allK l=false∨inB x 1 l.length=false∨inB y 0 999=false then 3 else if riseB 0 l=false then 1 else 0
section
variable {l:List Int} {x y:Int} {n:Nat}
theorem ruleR_many (hn:l.length=n) (h:inB n 1 3=false):ruleR l x y=2:=by unfold ruleR;rw[hn,if_pos h]
theorem ruleR_range (hn:l.length=n) (h:inB n 1 3=true) (h2:allK l=false∨inB x 1 n=false∨inB y 0 999=false):ruleR l x y=3:=by unfold ruleR;rw[hn,if_neg (by simp[h]),if_pos h2]
theorem ruleR_form (hn:l.length=n) (h:inB n 1 3=true) (h1:allK l=true) (h2:inB x 1 n=true) (h3:inB y 0 999=true) (h4:riseB 0 l=false):ruleR l x y=1:=by unfold ruleR;rw[hn,if_neg (by simp[h]),if_neg (by simp[h1,h2,h3]),if_pos h4]
theorem ruleR_ok (hn:l.length=n) (h:inB n 1 3=true) (h1:allK l=true) (h2:inB x 1 n=true) (h3:inB y 0 999=true) (h4:riseB 0 l=true):ruleR l x y=0:=by unfold ruleR;rw[hn,if_neg (by simp[h]),if_neg (by simp[h1,h2,h3]),if_neg (by simp[h4])]
end
theorem take_next {l:List Int} {n k:Nat} (hn:l.length=n) (hlt:k<n) {s:Int} (hs:s=l.getD k 0):l.take (k+1)=l.take k++[s]:=
 take_more (by rw[hs];simp[List.getD,show k<l.length by omega])
theorem take_all {l:List Int} {n k:Nat} (hn:l.length=n) (h:¬k<n):l.take k=l:=List.take_of_length_le (by omega)
theorem lastK_take {l:List Int} {n k:Nat} (hn:l.length=n) (hk:k<n) {s:Int} (hs:s=l.getD k 0):lastK 0 (l.take (k+1))=s:=by rw[take_next hn hk hs,lastK_snoc]
theorem riseB_one {l:List Int} {n:Nat} (hn:l.length=n) (h:inB n 1 3=true) (ha:allK l=true):riseB 0 (l.take 1)=true:=by
 have:=inB_true.1 h
 match l,hn with
 |[],hn=>simp at hn;omega
 |k::t,_=>
  simp[allK] at ha
  have:=inB_true.1 ha.1
  simp[riseB]
  omega
theorem l2Height_any (v:Int) (w:World):Calls Tryz.prog 29 #[.int .i64 v] w fun e w'=>e= .returned (.bool (inB v 0 999))∧w'=w:=by
 go_enter Tryz.func29,Tryz.ntmps29
 go_wp2_with (go_at_call 60;refine (l1In_any _ _ _ _).mono ?_;rintro e w' ⟨rfl,hw⟩;have hw2:=hw.symm;subst hw2)
 go_ret
 exact ⟨rfl,rfl⟩
theorem isHeight_any (v:Int) (w:World):Calls Tryz.prog 39 #[.int .i64 v] w fun e w'=>e= .returned (.bool (inB v 0 999))∧w'=w:=by
 go_enter Tryz.func39,Tryz.ntmps39
 go_wp2_with (go_at_call 87;refine (isWithin_any _ _ _ _).mono ?_;rintro e w' ⟨rfl,hw⟩;have hw2:=hw.symm;subst hw2)
 go_ret
 exact ⟨rfl,rfl⟩
end Go.Proofs.YtagokfoimokniaaGreatDoor
namespace Go.Proofs.YtagokfoimokniaaGreatDoor
open Go.RowKit Go.Shelf Go.Maps Go.WideMaps
structure RBx (w v:World) (a:Option Addr) (n cap:Nat) (x y:Int) (t:TypeId):Prop where
 box:v.heap[w.heap.size]? =some (.cells #[.slice a n cap,.int .i64 x,.int .i64 y] t (0,0))
 bel:Below w.heap.size w v
section
variable {w v v':World} {a:Option Addr} {n cap:Nat} {x y:Int} {t:TypeId} {l:List Int}
theorem RBx.start:RBx w (w.alloc (.cells #[.slice a n cap,.int .i64 x,.int .i64 y] t)) a n cap x y t:=⟨heap_alloc_new _ _,below_box _⟩
theorem RBx.step (h:RBx w v a n cap x y t) (hb:Below v.heap.size v v'):RBx w v' a n cap x y t:=⟨(keepb h.box hb).out,h.bel.trans (hb.mono h.bel.size)⟩
theorem RBx.lt (h:RBx w v a n cap x y t):w.heap.size<v.heap.size:=lt_of_block h.box
end
theorem keys_go {w v:World} {a:Option Addr} {n cap:Nat} {x y:Int} {l:List Int} (h:RBx w v a n cap x y 50) (hl:n≤1048576) (hI:IAt w a n l):
 Hid (Calls Tryz.prog 135 #[.func (.func 160) #[] #[.pointer (some ⟨v.heap.size,0,none⟩)]] (v.alloc (.cells #[.slice a n cap,.int .i64 x,.int .i64 y] 50)) fun e w'=>e= .returned (.bool (allK l))∧Hid (RBx w w' a n cap x y 50))∧
 Hid (Calls Tryz.prog 137 #[.func (.func 160) #[] #[.pointer (some ⟨v.heap.size,0,none⟩)]] (v.alloc (.cells #[.slice a n cap,.int .i64 x,.int .i64 y] 50)) fun e w'=>e= .returned (.bool (riseB 0 l))∧Hid (RBx w w' a n cap x y 50)):=by
 have hb:Below v.heap.size v (v.alloc (.cells #[.slice a n cap,.int .i64 x,.int .i64 y] 50)):=below_box _
 have h2:=h.step hb
 have hc:=(cells3 (heap_alloc_new v (.cells #[.slice a n cap,.int .i64 x,.int .i64 y] 50))).1
 exact ⟨(areKeys_any v.heap.size n cap a l w _ hl hI h2.bel (by simp) hc).mono fun e w' ⟨e1,e2⟩=>⟨e1,h2.step e2⟩,(keysRise_any v.heap.size n cap a l w _ hl hI h2.bel (by simp) hc).mono fun e w' ⟨e1,e2⟩=>⟨e1,h2.step e2⟩⟩
set_option maxRecDepth 20000 in
set_option maxHeartbeats 2000000 in
theorem iRuleFault_any (n cap:Nat) (a:Option Addr) (l:List Int) (x y:Int) (w:World) (hl:n≤1048576) (hI:IAt w a n l):
 Calls Tryz.prog 88 #[.agg #[.slice a n cap,.int .i64 x,.int .i64 y]] w fun e w'=>e= .returned (.int .i64 (ruleR l x y))∧Below w.heap.size w w':=by
 have HI:Hid (IAt w a n l):=hI
 have HN:Hid (l.length=n):=hI.1
 have B0:RBx w (w.alloc (.cells #[.slice a n cap,.int .i64 x,.int .i64 y] 50)) a n cap x y 50:=RBx.start
 obtain ⟨HG,_⟩:=keys_go B0 hl hI
 have HB0:Hid (Below w.heap.size w (w.alloc (.cells #[.slice a n cap,.int .i64 x,.int .i64 y] 50))):=B0.bel
 obtain ⟨b1,hb1⟩:∃b,b=inB n 1 3:=⟨_,rfl⟩
 obtain ⟨ka,hka⟩:∃b,b=allK l:=⟨_,rfl⟩
 obtain ⟨kr,hkr⟩:∃b,b=riseB 0 l:=⟨_,rfl⟩
 obtain ⟨kb,hkb⟩:∃b,b=inB x 1 n:=⟨_,rfl⟩
 obtain ⟨kc,hkc⟩:∃b,b=inB y 0 999:=⟨_,rfl⟩
 have hW1:∀v,Calls Tryz.prog 87 #[.int .i64 n,.int .i64 1,.int .i64 3] v fun e w'=>e= .returned (.bool b1)∧w'=v:=fun v=>by rw[hb1];exact isWithin_any _ _ _ v
 have hW2:∀v,Calls Tryz.prog 87 #[.int .i64 x,.int .i64 1,.int .i64 n] v fun e w'=>e= .returned (.bool kb)∧w'=v:=fun v=>by rw[hkb];exact isWithin_any _ _ _ v
 have hW3:∀v,Calls Tryz.prog 39 #[.int .i64 y] v fun e w'=>e= .returned (.bool kc)∧w'=v:=fun v=>by rw[hkc];exact isHeight_any _ v
 have hak:=HG.out
 rw[World.size_alloc,←hka] at hak
 have hrise:∀v,RBx w v a n cap x y 50→Hid (Calls Tryz.prog 137 #[.func (.func 160) #[] #[.pointer (some ⟨v.heap.size,0,none⟩)]] (v.alloc (.cells #[.slice a n cap,.int .i64 x,.int .i64 y] 50)) fun e w'=>e= .returned (.bool kr)∧Hid (RBx w w' a n cap x y 50)):=fun v hv=>by rw[hkr];exact (keys_go hv hl HI.out).2
 have HRS:Hid (∀v,RBx w v a n cap x y 50→Hid (Calls Tryz.prog 137 #[.func (.func 160) #[] #[.pointer (some ⟨v.heap.size,0,none⟩)]] (v.alloc (.cells #[.slice a n cap,.int .i64 x,.int .i64 y] 50)) fun e w'=>e= .returned (.bool kr)∧Hid (RBx w w' a n cap x y 50))):=hrise
 have HB1:Hid (b1=inB n 1 3):=hb1
 have HKA:Hid (ka=allK l):=hka
 have HKR:Hid (kr=riseB 0 l):=hkr
 have HKB:Hid (kb=inB x 1 n):=hkb
 have HKC:Hid (kc=inB y 0 999):=hkc
 obtain ⟨r,hr⟩:∃r,r=ruleR l x y:=⟨_,rfl⟩
 rw[←hr]
 have HR:Hid (r=ruleR l x y):=hr
 clear hI hb1 hka hkr hkb hkc hr hrise HG B0
 cases b1
 ·obtain rfl:r=2:=by rw[HR.out];exact ruleR_many HN.out HB1.out.symm
  go_enter Tryz.func88,Tryz.ntmps88
  go_wp2_with (go_at_call 87;refine (hW1 _).mono ?_;rintro e w' ⟨rfl,hw⟩;have hw2:=hw.symm;subst hw2)
  go_ret
  exact ⟨rfl,HB0.out⟩
 cases ka
 ·obtain rfl:r=3:=by rw[HR.out];exact ruleR_range HN.out HB1.out.symm (.inl HKA.out.symm)
  go_enter Tryz.func88,Tryz.ntmps88
  go_wp2_with (first
   |(go_at_call 87;refine (hW1 _).mono ?_;rintro e w' ⟨rfl,hw⟩;have hw2:=hw.symm;subst hw2)
   |(go_at_call 136;refine (eachKey_any _ _ _ _ _ _).mono ?_;rintro e w' ⟨rfl,hw⟩;subst hw)
   |(go_at_call 135;refine hak.mono ?_;rintro e w2 ⟨rfl,HB2⟩;obtain ⟨p0,p1,p2⟩:=cells3 HB2.out.box))
  go_ret
  exact ⟨rfl,HB2.out.bel⟩
 cases kb
 ·obtain rfl:r=3:=by rw[HR.out];exact ruleR_range HN.out HB1.out.symm (.inr (.inl HKB.out.symm))
  go_enter Tryz.func88,Tryz.ntmps88
  go_wp2_with (first
   |(go_at_call 87;(first|(refine (hW1 _).mono ?_;clear hW1)|refine (hW2 _).mono ?_);rintro e w' ⟨rfl,hw⟩;have hw2:=hw.symm;subst hw2)
   |(go_at_call 136;refine (eachKey_any _ _ _ _ _ _).mono ?_;rintro e w' ⟨rfl,hw⟩;subst hw)
   |(go_at_call 135;refine hak.mono ?_;rintro e w2 ⟨rfl,HB2⟩;obtain ⟨p0,p1,p2⟩:=cells3 HB2.out.box))
  go_ret
  exact ⟨rfl,HB2.out.bel⟩
 cases kc
 ·obtain rfl:r=3:=by rw[HR.out];exact ruleR_range HN.out HB1.out.symm (.inr (.inr HKC.out.symm))
  go_enter Tryz.func88,Tryz.ntmps88
  go_wp2_with (first
   |(go_at_call 87;(first|(refine (hW1 _).mono ?_;clear hW1)|refine (hW2 _).mono ?_);rintro e w' ⟨rfl,hw⟩;have hw2:=hw.symm;subst hw2)
   |(go_at_call 136;refine (eachKey_any _ _ _ _ _ _).mono ?_;rintro e w' ⟨rfl,hw⟩;subst hw)
   |(go_at_call 39;refine (hW3 _).mono ?_;rintro e w' ⟨rfl,hw⟩;have hw2:=hw.symm;subst hw2)
   |(go_at_call 135;refine hak.mono ?_;rintro e w2 ⟨rfl,HB2⟩;obtain ⟨p0,p1,p2⟩:=cells3 HB2.out.box))
  go_ret
  exact ⟨rfl,HB2.out.bel⟩
 cases kr
 ·obtain rfl:r=1:=by rw[HR.out];exact ruleR_form HN.out HB1.out.symm HKA.out.symm HKB.out.symm HKC.out.symm HKR.out.symm
  go_enter Tryz.func88,Tryz.ntmps88
  go_wp2_with (first
   |(go_at_call 87;(first|(refine (hW1 _).mono ?_;clear hW1)|refine (hW2 _).mono ?_);rintro e w' ⟨rfl,hw⟩;have hw2:=hw.symm;subst hw2)
   |(go_at_call 136;refine (eachKey_any _ _ _ _ _ _).mono ?_;rintro e w' ⟨rfl,hw⟩;subst hw)
   |(go_at_call 39;refine (hW3 _).mono ?_;rintro e w' ⟨rfl,hw⟩;have hw2:=hw.symm;subst hw2)
   |(go_at_call 135;refine hak.mono ?_;rintro e w2 ⟨rfl,HB2⟩;obtain ⟨p0,p1,p2⟩:=cells3 HB2.out.box;have hri:=HRS.out _ HB2.out)
   |(go_at_call 137;refine hri.out.mono ?_;rintro e w4 ⟨rfl,HB4⟩))
  go_ret
  exact ⟨rfl,HB4.out.bel⟩
 ·obtain rfl:r=0:=by rw[HR.out];exact ruleR_ok HN.out HB1.out.symm HKA.out.symm HKB.out.symm HKC.out.symm HKR.out.symm
  go_enter Tryz.func88,Tryz.ntmps88
  go_wp2_with (first
   |(go_at_call 87;(first|(refine (hW1 _).mono ?_;clear hW1)|refine (hW2 _).mono ?_);rintro e w' ⟨rfl,hw⟩;have hw2:=hw.symm;subst hw2)
   |(go_at_call 136;refine (eachKey_any _ _ _ _ _ _).mono ?_;rintro e w' ⟨rfl,hw⟩;subst hw)
   |(go_at_call 39;refine (hW3 _).mono ?_;rintro e w' ⟨rfl,hw⟩;have hw2:=hw.symm;subst hw2)
   |(go_at_call 135;refine hak.mono ?_;rintro e w2 ⟨rfl,HB2⟩;obtain ⟨p0,p1,p2⟩:=cells3 HB2.out.box;have hri:=HRS.out _ HB2.out)
   |(go_at_call 137;refine hri.out.mono ?_;rintro e w4 ⟨rfl,HB4⟩))
  go_ret
  exact ⟨rfl,HB4.out.bel⟩
end Go.Proofs.YtagokfoimokniaaGreatDoor

namespace Go.Proofs.YtagokfoimokniaaGreatDoor
open Go.RowKit Go.Maps

theorem Tryz.infoRef : (Tryz.prog.info? 47).map (fun i => (i.zero, i.size, i.bytes)) = some (some (.agg #[.int .i64 0, .int .i64 0]), 2, 16) := by kernel_rfl

end Go.Proofs.YtagokfoimokniaaGreatDoor

namespace Go.Proofs.YtagokfoimokniaaGreatDoor
open Go.RowKit Go.Maps

structure Ou where
  v : Int
  l : List Int
  x : Int
  y : Int
def O0 : Ou := ⟨0, [], 0, 0⟩

/-- What a slice of outs leads to: four cells each, the keys behind the second. -/
def OAt (w : World) (a : Option Addr) (n : Nat) (os : List Ou) : Prop :=
  os.length = n ∧ (n = 0 ∨ ∃ b off, a = some ⟨b, off, none⟩ ∧ b < w.heap.size ∧ ∀ j, j < n → ∃ ka kn kc, w.cell? ⟨b, off + j * 4, none⟩ = some (.int .i64 (os.getD j O0).v) ∧ w.cell? ⟨b, off + j * 4 + 1, none⟩ = some (.slice ka kn kc) ∧
    w.cell? ⟨b, off + j * 4 + 2, none⟩ = some (.int .i64 (os.getD j O0).x) ∧ w.cell? ⟨b, off + j * 4 + 3, none⟩ = some (.int .i64 (os.getD j O0).y) ∧ kn ≤ maxLen ∧ IAt w ka kn (os.getD j O0).l)

theorem OAt.below {w w' : World} {a : Option Addr} {n : Nat} {os : List Ou} (h : OAt w a n os) {B : Nat} (hb : Below B w w') (hB : w.heap.size ≤ B) : OAt w' a n os := by
  obtain ⟨hn, h | ⟨b, off, rfl, hlt, hc⟩⟩ := h
  · exact ⟨hn, .inl h⟩
  · refine ⟨hn, .inr ⟨b, off, rfl, Nat.lt_of_lt_of_le hlt hb.size, fun j hj => ?_⟩⟩
    obtain ⟨ka, kn, kc, h0, h1, h2, h3, h4, h5⟩ := hc j hj
    have hl := Nat.lt_of_lt_of_le hlt hB
    exact ⟨ka, kn, kc, (hb.cell (p := ⟨b, off + j * 4, none⟩) hl).trans h0, (hb.cell (p := ⟨b, off + j * 4 + 1, none⟩) hl).trans h1, (hb.cell (p := ⟨b, off + j * 4 + 2, none⟩) hl).trans h2, (hb.cell (p := ⟨b, off + j * 4 + 3, none⟩) hl).trans h3, h4, h5.below hb hB⟩

end Go.Proofs.YtagokfoimokniaaGreatDoor

namespace Go.Proofs.YtagokfoimokniaaGreatDoor
open Go.RowKit Go.Maps Go.WideMaps

theorem Tryz.infoOut : (Tryz.prog.info? 52).map (fun i => (i.zero, i.size, i.bytes)) = some (some (.agg #[.int .i64 0, .slice none 0 0, .int .i64 0, .int .i64 0]), 4, 48) := by kernel_rfl

theorem res4 {w w2 : World} {b B : Nat} {c0 c1 c2 c3 : Value} {t : TypeId} (h : w.heap[b]? = some (.cells #[c0, c1, c2, c3] t (0, 0))) (hb : Below B w w2) (hB : b < B) :
    (w2.cell? ⟨b, 0, none⟩ = some c0 ∧ w2.cell? ⟨b, 1, none⟩ = some c1 ∧ w2.cell? ⟨b, 2, none⟩ = some c2 ∧ w2.cell? ⟨b, 3, none⟩ = some c3 ∧ w2.frozen? ⟨b, 0, none⟩ = false ∧ w2.frozen? ⟨b, 1, none⟩ = false ∧ w2.frozen? ⟨b, 2, none⟩ = false ∧ w2.frozen? ⟨b, 3, none⟩ = false) ∧ Hid (w2.heap[b]? = some (.cells #[c0, c1, c2, c3] t (0, 0))) := by
  have h2 := (hb.block b hB).trans h
  exact ⟨cells4 h2, h2⟩

end Go.Proofs.YtagokfoimokniaaGreatDoor

namespace Go.Proofs.YtagokfoimokniaaGreatDoor
open Go.RowKit Go.Maps Go.WideMaps

end Go.Proofs.YtagokfoimokniaaGreatDoor

namespace Go.Proofs.YtagokfoimokniaaGreatDoor
open Go.RowKit Go.Maps Go.WideMaps

/-- What is known of a transaction: its refs and its outs. -/
structure TxAt (w : World) (ia : Option Addr) (n : Nat) (oa : Option Addr) (m : Nat) (rs : List (Int × Int)) (os : List Ou) : Prop where
  r : GAt w ia n rs
  o : OAt w oa m os
theorem TxAt.below {w w' : World} {ia oa : Option Addr} {n m : Nat} {rs : List (Int × Int)} {os : List Ou} (h : TxAt w ia n oa m rs os) {B : Nat} (hb : Below B w w') (hB : w.heap.size ≤ B) : TxAt w' ia n oa m rs os := ⟨h.r.below hb hB, h.o.below hb hB⟩

end Go.Proofs.YtagokfoimokniaaGreatDoor

namespace Go.Proofs.YtagokfoimokniaaGreatDoor
open Go.RowKit Go.Maps Go.WideMaps


end Go.Proofs.YtagokfoimokniaaGreatDoor

namespace Go.Proofs.YtagokfoimokniaaGreatDoor
open Go.RowKit Go.Maps Go.WideMaps

section
variable {w w2 W v : World} {b B : Nat} {c0 c1 c2 c3 c4 c5 c6 c7 : Value} {t : TypeId}
theorem cells8 (h : v.heap[b]? = some (.cells #[c0, c1, c2, c3, c4, c5, c6, c7] t (0, 0))) :
    (v.cell? ⟨b, 0, none⟩ = some c0 ∧ v.cell? ⟨b, 1, none⟩ = some c1 ∧ v.cell? ⟨b, 2, none⟩ = some c2 ∧ v.cell? ⟨b, 3, none⟩ = some c3 ∧ v.cell? ⟨b, 4, none⟩ = some c4 ∧ v.cell? ⟨b, 5, none⟩ = some c5 ∧ v.cell? ⟨b, 6, none⟩ = some c6 ∧ v.cell? ⟨b, 7, none⟩ = some c7) ∧ (v.frozen? ⟨b, 0, none⟩ = false ∧ v.frozen? ⟨b, 1, none⟩ = false ∧ v.frozen? ⟨b, 2, none⟩ = false ∧ v.frozen? ⟨b, 3, none⟩ = false ∧ v.frozen? ⟨b, 4, none⟩ = false ∧ v.frozen? ⟨b, 5, none⟩ = false ∧ v.frozen? ⟨b, 6, none⟩ = false ∧ v.frozen? ⟨b, 7, none⟩ = false) :=
  ⟨⟨by unfold World.cell?; rw [h]; rfl, by unfold World.cell?; rw [h]; rfl, by unfold World.cell?; rw [h]; rfl, by unfold World.cell?; rw [h]; rfl, by unfold World.cell?; rw [h]; rfl, by unfold World.cell?; rw [h]; rfl, by unfold World.cell?; rw [h]; rfl, by unfold World.cell?; rw [h]; rfl⟩, Joins.unfrozen_of_block h 0, Joins.unfrozen_of_block h 1, Joins.unfrozen_of_block h 2, Joins.unfrozen_of_block h 3, Joins.unfrozen_of_block h 4, Joins.unfrozen_of_block h 5, Joins.unfrozen_of_block h 6, Joins.unfrozen_of_block h 7⟩
end

structure Co where
  p : Int
  q : Int
  v : Int
  l : List Int
  x : Int
  y : Int
  h : Int
  m : Bool
def C0 : Co := ⟨0, 0, 0, [], 0, 0, 0, false⟩

/-- The eight cells of a coin. -/
def CoAt (w : World) (b i : Nat) (c : Co) (ka : Option Addr) (kc : Nat) : Prop :=
  w.cell? ⟨b, i, none⟩ = some (.int .i64 c.p) ∧ w.cell? ⟨b, i + 1, none⟩ = some (.int .i64 c.q) ∧ w.cell? ⟨b, i + 2, none⟩ = some (.int .i64 c.v) ∧ w.cell? ⟨b, i + 3, none⟩ = some (.slice ka c.l.length kc) ∧ w.cell? ⟨b, i + 4, none⟩ = some (.int .i64 c.x) ∧ w.cell? ⟨b, i + 5, none⟩ = some (.int .i64 c.y) ∧ w.cell? ⟨b, i + 6, none⟩ = some (.int .i64 c.h) ∧ w.cell? ⟨b, i + 7, none⟩ = some (.bool c.m)
theorem CoAt.below {w w' : World} {b i B : Nat} {c : Co} {ka : Option Addr} {kc : Nat} (h : CoAt w b i c ka kc) (hb : Below B w w') (hB : b < B) : CoAt w' b i c ka kc :=
  ⟨(hb.cell (p := ⟨b, i, none⟩) hB).trans h.1, (hb.cell (p := ⟨b, i + 1, none⟩) hB).trans h.2.1, (hb.cell (p := ⟨b, i + 2, none⟩) hB).trans h.2.2.1, (hb.cell (p := ⟨b, i + 3, none⟩) hB).trans h.2.2.2.1, (hb.cell (p := ⟨b, i + 4, none⟩) hB).trans h.2.2.2.2.1, (hb.cell (p := ⟨b, i + 5, none⟩) hB).trans h.2.2.2.2.2.1, (hb.cell (p := ⟨b, i + 6, none⟩) hB).trans h.2.2.2.2.2.2.1, (hb.cell (p := ⟨b, i + 7, none⟩) hB).trans h.2.2.2.2.2.2.2⟩

/-- What a slice of coins leads to: eight cells each, the keys behind the fourth. -/
def CAt (w : World) (a : Option Addr) (n : Nat) (cs : List Co) : Prop :=
  cs.length = n ∧ (n = 0 ∨ ∃ b off, a = some ⟨b, off, none⟩ ∧ b < w.heap.size ∧ ∀ j, j < n → ∃ ka kc, CoAt w b (off + j * 8) (cs.getD j C0) ka kc ∧ (cs.getD j C0).l.length ≤ maxLen ∧ IAt w ka (cs.getD j C0).l.length (cs.getD j C0).l)

theorem CAt.below {w w' : World} {a : Option Addr} {n : Nat} {cs : List Co} (h : CAt w a n cs) {B : Nat} (hb : Below B w w') (hB : w.heap.size ≤ B) : CAt w' a n cs := by
  obtain ⟨hn, h | ⟨b, off, rfl, hlt, hc⟩⟩ := h
  · exact ⟨hn, .inl h⟩
  · refine ⟨hn, .inr ⟨b, off, rfl, Nat.lt_of_lt_of_le hlt hb.size, fun j hj => ?_⟩⟩
    obtain ⟨ka, kc, h0, h1, h2⟩ := hc j hj
    exact ⟨ka, kc, h0.below hb (Nat.lt_of_lt_of_le hlt hB), h1, h2.below hb hB⟩

theorem Tryz.infoCoin : (Tryz.prog.info? 54).map (fun i => (i.zero, i.size, i.bytes)) = some (some (.agg #[.int .i64 0, .int .i64 0, .int .i64 0, .slice none 0 0, .int .i64 0, .int .i64 0, .int .i64 0, .bool false]), 8, 80) := by kernel_rfl


end Go.Proofs.YtagokfoimokniaaGreatDoor

namespace Go.Proofs.YtagokfoimokniaaGreatDoor
open Go.RowKit Go.Maps Go.WideMaps

theorem blocks2 (w : World) (o o' : Obj) : ((w.alloc o).alloc o').heap[w.heap.size]? = some o ∧ ((w.alloc o).alloc o').heap[w.heap.size + 1]? = some o' ∧ ((w.alloc o).alloc o').heap.size = w.heap.size + 1 + 1 := by
  refine ⟨block_at2, ?_, by simp⟩
  rw [show w.heap.size + 1 = (w.alloc o).heap.size by simp]
  exact heap_alloc_new _ _

end Go.Proofs.YtagokfoimokniaaGreatDoor

namespace Go.Proofs.YtagokfoimokniaaGreatDoor
open Go.RowKit Go.Maps Go.WideMaps

theorem Chg.refl (w : World) (lo hi : Nat) : Chg w w lo hi := ⟨rfl, rfl, rfl, Nat.le_refl _, fun _ _ _ => rfl⟩
theorem Chg.setCell {w W : World} {lo hi g t : Nat} (h : Chg w W lo hi) (hg : lo ≤ g ∧ g < hi) (u : Value) : Chg w (W.setCell ⟨g, t, none⟩ u) lo hi :=
  ⟨h.os, h.tape, h.output, by simpa using h.size, fun b hb ho => (Below.heap_setCell _ ⟨g, t, none⟩ u b (show b ≠ g by omega)).trans (h.block b hb ho)⟩

/-- The eight cells of a coin in a row. -/
def CellsC (xs : List Value) (j : Nat) (c : Co) (u : Value) : Prop :=
  xs[j * 8]? = some (.int .i64 c.p) ∧ xs[j * 8 + 1]? = some (.int .i64 c.q) ∧ xs[j * 8 + 2]? = some (.int .i64 c.v) ∧ xs[j * 8 + 3]? = some (u) ∧ xs[j * 8 + 4]? = some (.int .i64 c.x) ∧ xs[j * 8 + 5]? = some (.int .i64 c.y) ∧ xs[j * 8 + 6]? = some (.int .i64 c.h) ∧ xs[j * 8 + 7]? = some (.bool c.m)

/-- Coins whose row and whose keys' rows lie in blocks from lo on and below hi, no two in one. -/
structure COwn (w : World) (lo hi : Nat) (v : Value) (n : Nat) (f : Nat → Co) (kv : Nat → Value) : Prop where
  row : ∃ xs, w.ownsRow lo 54 8 v n xs ∧ ∀ j, j < n → CellsC xs j (f j) (kv j)
  top : ∀ b, v.ownBlock = some b → b < hi
  keys : ∀ j, j < n → w.ownsRow lo 2 1 (kv j) (f j).l.length (ints (f j).l) ∧ ∀ b, (kv j).ownBlock = some b → b < hi
  apart : ∀ i j, i < j → j < n → ∀ b, (kv i).ownBlock = some b → (kv j).ownBlock ≠ some b

theorem COwn.below {w w' : World} {lo hi n : Nat} {v : Value} {f : Nat → Co} {kv : Nat → Value} (h : COwn w lo hi v n f kv) (hb : Below w.heap.size w w') : COwn w' lo hi v n f kv := by
  obtain ⟨xs, h1, h2⟩ := h.row
  exact ⟨⟨xs, h1.kept (grown_of_below hb) (by cases Value.ownBlock v <;> simp), h2⟩, h.top, fun j hj => ⟨(h.keys j hj).1.kept (grown_of_below hb) (by cases Value.ownBlock (kv j) <;> simp), (h.keys j hj).2⟩, h.apart⟩
theorem COwn.chg {w w' : World} {lo hi n lo' hi' : Nat} {v : Value} {f : Nat → Co} {kv : Nat → Value} (h : COwn w lo hi v n f kv) (hc : Chg w w' lo' hi') (hd : hi ≤ lo' ∨ hi' ≤ lo) : COwn w' lo hi v n f kv := by
  obtain ⟨xs, h1, h2⟩ := h.row
  refine ⟨⟨xs, hc.row h1 fun k hk => ?_, h2⟩, h.top, fun j hj => ⟨hc.row (h.keys j hj).1 fun k hk => ?_, (h.keys j hj).2⟩, h.apart⟩
  · have a := h.top k hk
    have b := (h1.lt k hk).1
    omega
  · have a := (h.keys j hj).2 k hk
    have b := ((h.keys j hj).1.lt k hk).1
    omega
theorem COwn.mono {w : World} {lo hi hi' n : Nat} {v : Value} {f : Nat → Co} {kv : Nat → Value} (h : COwn w lo hi v n f kv) (hh : hi ≤ hi') : COwn w lo hi' v n f kv :=
  ⟨h.row, fun b hb => Nat.lt_of_lt_of_le (h.top b hb) hh, fun j hj => ⟨(h.keys j hj).1, fun b hb => Nat.lt_of_lt_of_le ((h.keys j hj).2 b hb) hh⟩, h.apart⟩

/-- The row's own block is no block of keys. -/
theorem COwn.far {w : World} {lo hi n g cap : Nat} {f : Nat → Co} {kv : Nat → Value} (h : COwn w lo hi (.slice (some ⟨g, 0, none⟩) n cap) n f kv) {j : Nat} (hj : j < n) {b : Nat} (hb : (kv j).ownBlock = some b) : g ≠ b := by
  obtain ⟨xs, h1, _⟩ := h.row
  exact fun e => rows_apart (by decide) h1 (h.keys j hj).1 g rfl (by rw [hb, e])

theorem COwn.cells {w : World} {lo hi n g cap : Nat} {f : Nat → Co} {kv : Nat → Value} (h : COwn w lo hi (.slice (some ⟨g, 0, none⟩) n cap) n f kv) {j : Nat} (hj : j < n) {c : Co} (hc : f j = c) {u : Value} (hu : kv j = u) :
    (w.cell? ⟨g, j * 8, none⟩ = some (.int .i64 c.p) ∧ w.cell? ⟨g, j * 8 + 1, none⟩ = some (.int .i64 c.q) ∧ w.cell? ⟨g, j * 8 + 2, none⟩ = some (.int .i64 c.v) ∧ w.cell? ⟨g, j * 8 + 3, none⟩ = some (u) ∧ w.cell? ⟨g, j * 8 + 4, none⟩ = some (.int .i64 c.x) ∧ w.cell? ⟨g, j * 8 + 5, none⟩ = some (.int .i64 c.y) ∧ w.cell? ⟨g, j * 8 + 6, none⟩ = some (.int .i64 c.h) ∧ w.cell? ⟨g, j * 8 + 7, none⟩ = some (.bool c.m)) ∧ (w.frozen? ⟨g, j * 8, none⟩ = false ∧ w.frozen? ⟨g, j * 8 + 1, none⟩ = false ∧ w.frozen? ⟨g, j * 8 + 2, none⟩ = false ∧ w.frozen? ⟨g, j * 8 + 3, none⟩ = false ∧ w.frozen? ⟨g, j * 8 + 4, none⟩ = false ∧ w.frozen? ⟨g, j * 8 + 5, none⟩ = false ∧ w.frozen? ⟨g, j * 8 + 6, none⟩ = false ∧ w.frozen? ⟨g, j * 8 + 7, none⟩ = false) := by
  obtain ⟨xs, h1, h2⟩ := h.row
  have h3 := h2 j hj
  rw [hc, hu] at h3
  obtain ⟨a0, a1, a2, a3, a4, a5, a6, a7⟩ := h3
  have hl := h1.1
  exact ⟨⟨(h1.cellAt (j * 8) (by omega)).trans a0, (h1.cellAt (j * 8 + 1) (by omega)).trans a1, (h1.cellAt (j * 8 + 2) (by omega)).trans a2, (h1.cellAt (j * 8 + 3) (by omega)).trans a3, (h1.cellAt (j * 8 + 4) (by omega)).trans a4, (h1.cellAt (j * 8 + 5) (by omega)).trans a5, (h1.cellAt (j * 8 + 6) (by omega)).trans a6, (h1.cellAt (j * 8 + 7) (by omega)).trans a7⟩, h1.frozenAt _, h1.frozenAt _, h1.frozenAt _, h1.frozenAt _, h1.frozenAt _, h1.frozenAt _, h1.frozenAt _, h1.frozenAt _⟩

end Go.Proofs.YtagokfoimokniaaGreatDoor

namespace Go.Proofs.YtagokfoimokniaaGreatDoor
open Go.RowKit Go.Maps Go.WideMaps
set_option maxRecDepth 20000 in
set_option maxHeartbeats 2000000 in
theorem l2FaultAt_any (P q n cap:Nat) (a:Option Addr) (l:List Int) (x y:Int) (w:World) (hl:n≤1048576) (hI:IAt w a n l) (hPl:P<w.heap.size) (p0:w.cell? ⟨P,q,none⟩=some (.slice a n cap)) (p1:w.cell? ⟨P,q+1,none⟩=some (.int .i64 x)) (p2:w.cell? ⟨P,q+2,none⟩=some (.int .i64 y)):
 Calls Tryz.prog 115 #[.pointer (some ⟨P,q,none⟩)] w fun e w'=>e= .returned (.int .i64 (ruleR l x y))∧Below w.heap.size w w':=by
 have HI:Hid (IAt w a n l):=hI
 have HN:Hid (l.length=n):=hI.1
 obtain ⟨b1,hb1⟩:∃b,b=inB n 1 3:=⟨_,rfl⟩
 obtain ⟨kb,hkb⟩:∃b,b=inB x 1 n:=⟨_,rfl⟩
 obtain ⟨kc,hkc⟩:∃b,b=inB y 0 999:=⟨_,rfl⟩
 have hW1:∀v,Calls Tryz.prog 60 #[.int .i64 n,.int .i64 1,.int .i64 3] v fun e w'=>e= .returned (.bool b1)∧w'=v:=fun v=>by rw[hb1];exact l1In_any _ _ _ v
 have hW2:∀v,Calls Tryz.prog 60 #[.int .i64 x,.int .i64 1,.int .i64 n] v fun e w'=>e= .returned (.bool kb)∧w'=v:=fun v=>by rw[hkb];exact l1In_any _ _ _ v
 have hW3:∀v,Calls Tryz.prog 29 #[.int .i64 y] v fun e w'=>e= .returned (.bool kc)∧w'=v:=fun v=>by rw[hkc];exact l2Height_any _ v
 have HB1:Hid (b1=inB n 1 3):=hb1
 have HKB:Hid (kb=inB x 1 n):=hkb
 have HKC:Hid (kc=inB y 0 999):=hkc
 obtain ⟨r,hr⟩:∃r,r=ruleR l x y:=⟨_,rfl⟩
 rw[←hr]
 have HR:Hid (r=ruleR l x y):=hr
 clear hI hb1 hkb hkc hr
 cases b1
 ·obtain rfl:r=2:=by rw[HR.out];exact ruleR_many HN.out HB1.out.symm
  go_enter Tryz.func115,Tryz.ntmps115
  go_wp2_with (go_at_call 60;refine (hW1 _).mono ?_;rintro e w' ⟨rfl,hw⟩;have hw2:=hw.symm;subst hw2)
  go_ret
  exact ⟨rfl,Below.refl _ _⟩
 ·go_enter Tryz.func115,Tryz.ntmps115
  go_wp2_with (go_at_call 60;refine (hW1 _).mono ?_;rintro e w' ⟨rfl,hw⟩;have hw2:=hw.symm;subst hw2)
  go_loop [4] (fun i=>∃k:Nat,k≤n∧i= .int .i64 k∧Hid (allK (l.take k)=true)) (fun i=>n-(intOf i).toNat)
  case atStart=>exact ⟨0,Nat.zero_le _,rfl,by show _=_;simp[allK]⟩
  case round=>
   obtain ⟨k,hk,rfl,HT⟩:=hrel
   by_cases hlt:k<n
   ·rcases HI.out.2 with h0|⟨b0,o0,e0,l0,d0⟩
    ·omega
    subst e0
    obtain ⟨s,hs⟩:∃s,s=l.getD k 0:=⟨_,rfl⟩
    have x0:=d0 k hlt
    rw[←hs] at x0
    have HS:Hid (s=l.getD k 0):=hs
    obtain ⟨ks,hks⟩:∃b,b=inB s 1 999:=⟨_,rfl⟩
    have hkey:∀v,Calls Tryz.prog 59 #[.int .i64 s] v fun e w'=>e= .returned (.bool ks)∧w'=v:=fun v=>by rw[hks];exact l1Key_any s v
    have HKS:Hid (ks=inB s 1 999):=hks
    clear hs d0 hks
    have hki:(k:Int)<(n:Int):=by omega
    cases ks
    ·obtain rfl:r=3:=by
      rw[HR.out]
      refine ruleR_range HN.out HB1.out.symm (.inl (allK_pre (pre:=l.take (k+1)) (List.take_prefix _ _) ?_))
      rw[take_next HN.out hlt HS.out];exact allK_bad HKS.out.symm
     go_wp2_with (go_at_call 59;refine (hkey _).mono ?_;rintro e w' ⟨rfl,hw⟩;have hw2:=hw.symm;subst hw2)
     go_ret
     exact ⟨rfl,Below.refl _ _⟩
    ·go_wp2_with (go_at_call 59;refine (hkey _).mono ?_;rintro e w' ⟨rfl,hw⟩;have hw2:=hw.symm;subst hw2)
     go_round
     case rel=>exact ⟨k+1,by omega,by go_num,by show _=_;rw[take_next HN.out hlt HS.out];exact allK_snoc HT.out HKS.out.symm⟩
     case measure=>simp[intOf];omega
   ·have HALL:Hid (allK l=true):=by have:=HT.out;rw[take_all HN.out hlt] at this;exact this
    clear HT
    cases kb
    ·obtain rfl:r=3:=by rw[HR.out];exact ruleR_range HN.out HB1.out.symm (.inr (.inl HKB.out.symm))
     go_wp2_with (go_at_call 60;refine (hW2 _).mono ?_;rintro e w' ⟨rfl,hw⟩;have hw2:=hw.symm;subst hw2)
     go_ret
     exact ⟨rfl,Below.refl _ _⟩
    ·cases kc
     ·obtain rfl:r=3:=by rw[HR.out];exact ruleR_range HN.out HB1.out.symm (.inr (.inr HKC.out.symm))
      go_wp2_with (first|(go_at_call 60;refine (hW2 _).mono ?_;rintro e w' ⟨rfl,hw⟩;have hw2:=hw.symm;subst hw2)|(go_at_call 29;refine (hW3 _).mono ?_;rintro e w' ⟨rfl,hw⟩;have hw2:=hw.symm;subst hw2))
      go_ret
      exact ⟨rfl,Below.refl _ _⟩
     ·go_wp2_with (first|(go_at_call 60;refine (hW2 _).mono ?_;rintro e w' ⟨rfl,hw⟩;have hw2:=hw.symm;subst hw2)|(go_at_call 29;refine (hW3 _).mono ?_;rintro e w' ⟨rfl,hw⟩;have hw2:=hw.symm;subst hw2))
      go_loopw [5] (fun i wr=>∃j:Nat,j+1≤n∧i= .int .i64 ((j:Int)+1)∧Hid (riseB 0 (l.take (j+1))=true)∧Below w.heap.size w wr) (fun i _=>n-(intOf i).toNat)
      case atStart=>exact ⟨0,by have:=inB_true.1 HB1.out.symm;omega,by go_num,riseB_one HN.out HB1.out.symm HALL.out,Below.refl _ _⟩
      case round=>
       obtain ⟨j,hj,rfl,HT,hbel⟩:=hrel
       by_cases hlt2:j+1<n
       ·rcases HI.out.2 with h0|⟨b0,o0,e0,l0,d0⟩
        ·omega
        subst e0
        obtain ⟨s,hs⟩:∃s,s=l.getD (j+1) 0:=⟨_,rfl⟩
        obtain ⟨t,ht⟩:∃t,t=l.getD j 0:=⟨_,rfl⟩
        have x0:=(hbel.cell (p:=⟨b0,o0+(j+1),none⟩) l0).trans (d0 (j+1) hlt2)
        have x1:=(hbel.cell (p:=⟨b0,o0+j,none⟩) l0).trans (d0 j (by omega))
        rw[←hs] at x0
        rw[←ht] at x1
        have HS:Hid (s=l.getD (j+1) 0):=hs
        have HTT:Hid (t=l.getD j 0):=ht
        clear hs ht d0
        have y0:=(hbel.cell (p:=⟨P,q,none⟩) hPl).trans p0
        have hki:(j:Int)+1<(n:Int):=by omega
        have hkj:(j:Int)<(n:Int):=by omega
        by_cases hst:s≤t
        ·obtain rfl:r=1:=by
          rw[HR.out]
          refine ruleR_form HN.out HB1.out.symm HALL.out HKB.out.symm HKC.out.symm (riseB_pre (pre:=l.take (j+1+1)) (List.take_prefix _ _) ?_)
          rw[take_next HN.out hlt2 HS.out,riseB_snoc,lastK_take HN.out (by omega) HTT.out,decide_eq_false (by omega),Bool.and_false]
         go_wp2
         go_quiet (fail)
         go_wp2
         go_ret
         exact ⟨rfl,hbel.trans (Joins.below_draws _ _ _)⟩
        ·go_wp2
         go_quiet (fail)
         go_wp2
         go_roundw
         case rel=>exact ⟨j+1,by omega,by go_num,by show _=_;rw[take_next HN.out hlt2 HS.out,riseB_snoc,lastK_take HN.out (by omega) HTT.out,HT.out,decide_eq_true (by omega)];rfl,hbel.trans (Joins.below_draws _ _ _)⟩
         case measure=>simp[intOf];omega
       ·have y0:=(hbel.cell (p:=⟨P,q,none⟩) hPl).trans p0
        obtain rfl:r=0:=by
         have:=HT.out
         rw[take_all HN.out hlt2] at this
         rw[HR.out];exact ruleR_ok HN.out HB1.out.symm HALL.out HKB.out.symm HKC.out.symm this
        have hki:¬(j:Int)+1<(n:Int):=by omega
        go_wp2
        go_ret
        exact ⟨rfl,hbel⟩
set_option maxHeartbeats 400000 in
theorem l3Among_any (a:Option Addr) (n cap:Nat) (gs:List (Int×Int)) (p q:Int) (w:World) (hl:n≤maxLen) (hs:GAt w a n gs):
 Calls Tryz.prog 65 #[.slice a n cap,.agg #[.int .i64 p,.int .i64 q]] w fun e w'=>e= .returned (.bool (memB gs (p,q)))∧Below w.heap.size w w':=by
 unfold maxLen at hl
 obtain ⟨hn,hs⟩:=hs
 rcases hs with rfl|⟨b,off,rfl,hb,hc⟩
 ·obtain rfl:gs=[]:=List.length_eq_zero_iff.1 hn
  go_enter Tryz.func65,Tryz.ntmps65
  go_wp2
  refine wp_loop_rounds 1 ?_
  rw[rounds_succ]
  go_wp2
  go_ret
  exact ⟨rfl,(Below.refl _ _).alloc (Nat.le_refl _) _⟩
 ·have HN:Hid (gs.length=n):=hn
  clear hn
  go_enter Tryz.func65,Tryz.ntmps65
  go_wp2
  go_loopw [5] (fun i wr=>∃k:Nat,k≤n∧i= .int .i64 k∧Hid ((p,q)∉gs.take k)∧wr.cell? ⟨w.heap.size,0,none⟩=some (.int .i64 p)∧wr.cell? ⟨w.heap.size,1,none⟩=some (.int .i64 q)∧Below w.heap.size w wr) (fun i _=>n-(intOf i).toNat)
  case atStart=>exact ⟨0,Nat.zero_le _,rfl,by show (p,q)∉_;simp,by simp,by simp,(Below.refl _ _).alloc (Nat.le_refl _) _⟩
  case round=>
   obtain ⟨k,hk,rfl,hj,hp,hq,hbel⟩:=hrel
   by_cases hlt:k<n
   ·obtain ⟨g,hg⟩:∃g,g=gs.getD k G0:=⟨_,rfl⟩
    have hcx:=hc k hlt
    rw[←hg] at hcx
    obtain ⟨g1,g2⟩:=g
    have c0:=(hbel.cell (p:=⟨b,off+k*2,none⟩) hb).trans hcx.1
    have c1:=(hbel.cell (p:=⟨b,off+k*2+1,none⟩) hb).trans hcx.2
    have HG:Hid ((g1,g2)=gs.getD k G0):=hg
    clear hg hc hcx
    have hki:(k:Int)<(n:Int):=by omega
    by_cases h1:g1=p
    ·have e1:(g1==p)=true:=by simp[h1]
     have H1:Hid (g1=p):=h1
     clear h1
     by_cases h2:g2=q
     ·have e2:(g2==q)=true:=by simp[h2]
      have H2:Hid (g2=q):=h2
      clear h2
      go_wp2
      go_quiet (fail)
      go_wp2
      go_ret
      refine ⟨?_,hbel.trans (Joins.below_draws _ _ _)⟩
      have hm:memB gs (p,q)=true:=by
       unfold memB
       rw[num_hit gs (p,q) G0 k (by rw[HN.out];exact hlt) (by rw[←HG.out,H1.out,H2.out]) hj.out]
       simp
      rw[hm];rfl
     ·have e2:(g2==q)=false:=by simp[h2]
      have H2:Hid (¬(g1,g2)=(p,q)):=fun e=>h2 (by simpa using congrArg Prod.snd e)
      clear h2
      go_wp2
      go_quiet (fail)
      go_wp2
      go_roundw
      case rel=>exact ⟨k+1,by omega,by go_num,signed_more HN.out hlt hj.out HG.out H2.out,by simpa using hp,by simpa using hq,hbel.trans (Joins.below_draws _ _ _)⟩
      case measure=>simp[intOf];omega
    ·have e1:(g1==p)=false:=by simp[h1]
     have H2:Hid (¬(g1,g2)=(p,q)):=fun e=>h1 (by simpa using congrArg Prod.fst e)
     clear h1
     go_wp2
     go_quiet (fail)
     go_wp2
     go_roundw
     case rel=>exact ⟨k+1,by omega,by go_num,signed_more HN.out hlt hj.out HG.out H2.out,by simpa using hp,by simpa using hq,hbel.trans (Joins.below_draws _ _ _)⟩
     case measure=>simp[intOf];omega
   ·go_wp2
    go_ret
    refine ⟨?_,hbel⟩
    have hm:memB gs (p,q)=false:=by
     unfold memB
     rw[(num_zero gs (p,q)).2 (by have:=hj.out;rwa [List.take_of_length_le (by rw[HN.out];omega)] at this)]
     rfl
    rw[hm];rfl
def refB (r:Int×Int):Bool:=inB r.1 1 60&&inB r.2 0 3
theorem l3Ref_any (a b:Int) (w:World):Calls Tryz.prog 62 #[.agg #[.int .i64 a,.int .i64 b]] w fun e w'=>e= .returned (.bool (refB (a,b)))∧Below w.heap.size w w':=by
 obtain ⟨ka,hka⟩:∃k,k=inB a 1 60:=⟨_,rfl⟩
 obtain ⟨kb,hkb⟩:∃k,k=inB b 0 3:=⟨_,rfl⟩
 have hr:refB (a,b)=(ka&&kb):=by rw[hka,hkb];rfl
 have h1:∀v,Calls Tryz.prog 60 #[.int .i64 a,.int .i64 1,.int .i64 60] v fun e w'=>e= .returned (.bool ka)∧w'=v:=fun v=>by rw[hka];exact l1In_any _ _ _ v
 have h2:∀v,Calls Tryz.prog 60 #[.int .i64 b,.int .i64 0,.int .i64 3] v fun e w'=>e= .returned (.bool kb)∧w'=v:=fun v=>by rw[hkb];exact l1In_any _ _ _ v
 rw[hr]
 clear hka hkb hr
 have hbx:Below w.heap.size w (w.alloc (.cells #[.int .i64 a,.int .i64 b] 47)):=below_box _
 cases ka<;>cases kb
 all_goals
  go_enter Tryz.func62,Tryz.ntmps62
  go_wp2_with (go_at_call 60;(first|(refine (h1 _).mono ?_;clear h1)|(refine (h2 _).mono ?_;clear h2));rintro e w' ⟨rfl,hw⟩;have hw2:=hw.symm;subst hw2)
  go_ret
  exact ⟨rfl,hbx⟩
def outsR:List Ou→Int
 |[]=>0
 |o::t=>if inB o.v 1 1000000=false then 3 else if ruleR o.l o.x o.y≠0 then ruleR o.l o.x o.y else outsR t
theorem drop_next {os:List Ou} {n k:Nat} (hn:os.length=n) (hk:k<n) {o:Ou} (ho:o=os.getD k O0):os.drop k=o::os.drop (k+1):=by
 rw[List.drop_eq_getElem_cons (show k<os.length by omega)]
 congr 1
 rw[ho,List.getD,List.getElem?_eq_getElem (by omega)]
 rfl
theorem drop_none {os:List Ou} {n k:Nat} (hn:os.length=n) (hk:¬k<n):outsR (os.drop k)=0:=by rw[List.drop_of_length_le (by omega)];rfl
def joinR (k:Int) (os:List Ou):Int:=if outsR os≠0 then outsR os else if k=1∧(os.getD 0 O0).v<100 then 8 else 0
set_option maxHeartbeats 1000000 in
theorem l3Outs_any (P m d:Nat) (oa:Option Addr) (os:List Ou) (k:Int) (w:World) (hm1:1≤m) (hm:m≤1048576) (hk:∀j,j<m→(os.getD j O0).l.length≤1048576) (hO:OAt w oa m os) (hPl:P<w.heap.size) (hK:w.cell? ⟨P,0,none⟩=some (.int .i64 k)) (hS:w.cell? ⟨P,3,none⟩=some (.slice oa m d)):
 Calls Tryz.prog 66 #[.pointer (some ⟨P,0,none⟩)] w fun e w'=>e= .returned (.int .i64 (joinR k os))∧Below w.heap.size w w':=by
 have HO:Hid (OAt w oa m os):=hO
 have HN:Hid (os.length=m):=hO.1
 have HKL:Hid (∀j,j<m→(os.getD j O0).l.length≤1048576):=hk
 obtain ⟨r,hr⟩:∃r,r=joinR k os:=⟨_,rfl⟩
 rw[←hr]
 have HR:Hid (r=joinR k os):=hr
 clear hO hk hr
 go_enter Tryz.func66,Tryz.ntmps66
 go_wp2
 go_loopw [3] (fun i wr=>∃j:Nat,j≤m∧i= .int .i64 j∧Below w.heap.size w wr∧Hid (outsR os=outsR (os.drop j))) (fun i _=>m-(intOf i).toNat)
 case atStart=>exact ⟨0,Nat.zero_le _,rfl,Below.refl _ _,by show _=_;simp⟩
 case round=>
  obtain ⟨j,hj,rfl,hbel,HT⟩:=hrel
  have y0:=(hbel.cell (p:=⟨P,0,none⟩) hPl).trans hK
  have y3:=(hbel.cell (p:=⟨P,3,none⟩) hPl).trans hS
  rcases HO.out.2 with h0|⟨b,off,e0,l0,d0⟩
  ·omega
  subst e0
  by_cases hlt:j<m
  ·obtain ⟨o,ho⟩:∃o,o=os.getD j O0:=⟨_,rfl⟩
   obtain ⟨ka,kn,kc,p0,p1,p2,p3,p4,p5⟩:=d0 j hlt
   have hol:=HKL.out j hlt
   rw[←ho] at p0 p2 p3 p5 hol
   have HS:Hid (o=os.getD j O0):=ho
   obtain ⟨ov,ol,ox,oy⟩:=o
   obtain rfl:=p5.1
   have x0:=(hbel.cell (p:=⟨b,off+j*4,none⟩) l0).trans p0
   have x1:=(hbel.cell (p:=⟨b,off+j*4+1,none⟩) l0).trans p1
   have x2:=(hbel.cell (p:=⟨b,off+j*4+2,none⟩) l0).trans p2
   have x3:=(hbel.cell (p:=⟨b,off+j*4+3,none⟩) l0).trans p3
   obtain ⟨cd,hcd⟩:∃c,c=ruleR ol ox oy:=⟨_,rfl⟩
   have hlf:=l2FaultAt_any b (off+j*4+1) ol.length kc ka ol ox oy wr hol (p5.below hbel (Nat.le_refl _)) (Nat.lt_of_lt_of_le l0 hbel.size) x1 x2 x3
   rw[←hcd] at hlf
   have HCD:Hid (cd=ruleR ol ox oy):=hcd
   obtain ⟨kv,hkv⟩:∃k,k=inB ov 1 1000000:=⟨_,rfl⟩
   have hin:∀v,Calls Tryz.prog 60 #[.int .i64 ov,.int .i64 1,.int .i64 1000000] v fun e w'=>e= .returned (.bool kv)∧w'=v:=fun v=>by rw[hkv];exact l1In_any _ _ _ v
   have HKV:Hid (kv=inB ov 1 1000000):=hkv
   simp only at x0 x2 x3
   have HNX:Hid (os.drop j=(⟨ov,ol,ox,oy⟩:Ou)::os.drop (j+1)):=drop_next HN.out hlt HS.out
   clear ho d0 p0 p1 p2 p3 p4 p5 hol hcd hkv x1
   have hki:(j:Int)<(m:Int):=by omega
   cases kv
   ·obtain rfl:r=3:=by rw[HR.out,joinR,HT.out,HNX.out,outsR,if_pos HKV.out.symm];rfl
    go_wp2_with (go_at_call 60;refine (hin _).mono ?_;rintro e w' ⟨rfl,hw⟩;have hw2:=hw.symm;subst hw2)
    go_ret
    exact ⟨rfl,hbel⟩
   ·by_cases hc0:cd=0
    ·have HTN:Hid (outsR os=outsR (os.drop (j+1))):=by
      show _=_
      rw[HT.out,HNX.out,outsR,if_neg (by rw[←HKV.out];simp),if_neg (by rw[←HCD.out,hc0];simp)]
     go_wp2_with (first|(go_at_call 60;refine (hin _).mono ?_;rintro e w' ⟨rfl,hw⟩;have hw2:=hw.symm;subst hw2)|(go_at_call 115;refine hlf.mono ?_;rintro e w3 ⟨rfl,hb3⟩))
     go_roundw
     case rel=>exact ⟨j+1,by omega,by go_num,hbel.trans (hb3.mono hbel.size),HTN⟩
     case measure=>simp[intOf];omega
    ·have e1:outsR os=cd:=by rw[HT.out,HNX.out,outsR,if_neg (by rw[←HKV.out];simp),if_pos (by rw[←HCD.out];exact hc0),←HCD.out]
     obtain rfl:r=cd:=by rw[HR.out,joinR,e1,if_pos hc0]
     clear e1
     go_wp2_with (first|(go_at_call 60;refine (hin _).mono ?_;rintro e w' ⟨rfl,hw⟩;have hw2:=hw.symm;subst hw2)|(go_at_call 115;refine hlf.mono ?_;rintro e w3 ⟨rfl,hb3⟩))
     go_ret
     exact ⟨rfl,hbel.trans (hb3.mono hbel.size)⟩
  ·obtain ⟨ka,kn,kc,p0,_⟩:=d0 0 (by omega)
   obtain ⟨ov,hov⟩:∃v,v=(os.getD 0 O0).v:=⟨_,rfl⟩
   rw[←hov] at p0
   simp only[Nat.zero_mul,Nat.add_zero] at p0
   have x0:=(hbel.cell (p:=⟨b,off,none⟩) l0).trans p0
   have HOV:Hid (ov=(os.getD 0 O0).v):=hov
   have HZ:Hid (outsR os=0):=by show _=_;rw[HT.out];exact drop_none HN.out hlt
   clear d0 p0 hov
   have hmi:0<(m:Int):=by omega
   by_cases hk1:k=1
   ·subst hk1
    by_cases hv:ov<100
    ·obtain rfl:r=8:=by rw[HR.out,joinR,HZ.out,if_neg (by simp),if_pos ⟨rfl,by rw[←HOV.out];exact hv⟩]
     go_wp2
     go_ret
     exact ⟨rfl,hbel⟩
    ·obtain rfl:r=0:=by rw[HR.out,joinR,HZ.out,if_neg (by simp),if_neg (by rw[←HOV.out];intro h;exact hv h.2)]
     go_wp2
     go_ret
     exact ⟨rfl,hbel⟩
   ·obtain rfl:r=0:=by rw[HR.out,joinR,HZ.out,if_neg (by simp),if_neg (fun h=>hk1 h.1)]
    have hkb:(k==1)=false:=by simpa using hk1
    go_wp2
    go_ret
    exact ⟨rfl,hbel⟩
set_option maxHeartbeats 400000 in
theorem l3Sum_any (P m d:Nat) (oa:Option Addr) (os:List Ou) (w:World) (hm:m≤4) (hv:∀j,j<m→1≤(os.getD j O0).v∧(os.getD j O0).v≤1000000) (hO:OAt w oa m os) (hS:w.cell? ⟨P,3,none⟩=some (.slice oa m d)):
 Calls Tryz.prog 73 #[.pointer (some ⟨P,0,none⟩)] w fun e w'=>e= .returned (.int .i64 (os.map Ou.v).sum)∧w'=w:=by
 have HO:Hid (OAt w oa m os):=hO
 have HN:Hid (os.length=m):=hO.1
 have HV:Hid (∀j,j<m→1≤(os.getD j O0).v∧(os.getD j O0).v≤1000000):=hv
 obtain ⟨r,hr⟩:∃r,r=(os.map Ou.v).sum:=⟨_,rfl⟩
 rw[←hr]
 have HR:Hid (r=(os.map Ou.v).sum):=hr
 clear hO hv hr
 go_enter Tryz.func73,Tryz.ntmps73
 go_wp2
 go_loop [3,4] (fun s i=>∃j:Nat,j≤m∧i= .int .i64 j∧∃q:Int,s= .int .i64 q∧0≤q∧q≤1000000*j∧Hid (q=((os.take j).map Ou.v).sum)) (fun _ i=>m-(intOf i).toNat)
 case atStart=>exact ⟨0,Nat.zero_le _,rfl,0,rfl,by omega,by omega,by show _=_;simp⟩
 case round=>
  obtain ⟨j,hj,rfl,q,rfl,hq0,hq1,HQ⟩:=hrel
  by_cases hlt:j<m
  ·rcases HO.out.2 with h0|⟨b,off,e0,l0,d0⟩
   ·omega
   subst e0
   obtain ⟨ka,kn,kc,p0,_⟩:=d0 j hlt
   have hvj:=HV.out j hlt
   obtain ⟨ov,hov⟩:∃v,v=(os.getD j O0).v:=⟨_,rfl⟩
   rw[←hov] at p0 hvj
   have HOV:Hid (ov=(os.getD j O0).v):=hov
   clear d0 hov
   have hki:(j:Int)<(m:Int):=by omega
   go_wp2
   go_round
   case rel=>
    refine ⟨j+1,by omega,by go_num,_,rfl,by omega,by omega,?_⟩
    show _=_
    have e1:os[j]? =some (os.getD j O0):=by rw[List.getD,List.getElem?_eq_getElem (by rw[HN.out];exact hlt)];rfl
    rw[take_more e1,List.map_append,List.sum_append,←HQ.out,HOV.out]
    simp
   case measure=>simp[intOf];omega
  ·have e1:os.take j=os:=List.take_of_length_le (by rw[HN.out];omega)
   obtain rfl:r=q:=by rw[HR.out,HQ.out,e1]
   clear e1
   go_wp2
   go_ret
   exact ⟨rfl,rfl⟩
end Go.Proofs.YtagokfoimokniaaGreatDoor
namespace Go.Proofs.YtagokfoimokniaaGreatDoor
open Go.RowKit Go.Maps Go.WideMaps
def refsR:List (Int×Int)→List (Int×Int)→Int
 |_,[]=>0
 |seen,r::t=>if refB r=false then 3 else if memB seen r=true then 7 else refsR (seen++[r]) t
def txR (k f:Int) (rs:List (Int×Int)) (os:List Ou):Int:=
 if inB k 0 2=false∨¬(k=0↔f=0) then 1 else if k≠0∧inB f 1 999=false then 3 else if inB rs.length 1 4=false∨inB os.length 1 4=false then 2
 else if refsR [] rs≠0 then refsR [] rs else joinR k os
section
variable {k f:Int} {rs:List (Int×Int)} {os:List Ou} {n m:Nat}
theorem txR_form (h:inB k 0 2=false∨¬(k=0↔f=0)):txR k f rs os=1:=by unfold txR;rw[if_pos h]
theorem txR_range (h:inB k 0 2=true) (h1:k=0↔f=0) (h2:k≠0) (h3:inB f 1 999=false):txR k f rs os=3:=by unfold txR;rw[if_neg (by simp[h,h1]),if_pos ⟨h2,h3⟩]
theorem txR_many (hn:rs.length=n) (hm:os.length=m) (h:inB k 0 2=true) (h1:k=0↔f=0) (h2:¬(k≠0∧inB f 1 999=false)) (h3:inB n 1 4=false∨inB m 1 4=false):txR k f rs os=2:=by unfold txR;rw[if_neg (by simp[h,h1]),if_neg h2,hn,hm,if_pos h3]
theorem txR_rest (hn:rs.length=n) (hm:os.length=m) (h:inB k 0 2=true) (h1:k=0↔f=0) (h2:¬(k≠0∧inB f 1 999=false)) (h3:inB n 1 4=true) (h4:inB m 1 4=true):txR k f rs os=if refsR [] rs≠0 then refsR [] rs else joinR k os:=by unfold txR;rw[if_neg (by simp[h,h1]),if_neg h2,hn,hm,if_neg (by simp[h3,h4])]
theorem rs_next (hn:rs.length=n) {j:Nat} (hj:j<n) {g:Int×Int} (hg:g=rs.getD j G0):rs.drop j=g::rs.drop (j+1)∧rs.take (j+1)=rs.take j++[g]:=by
 have e1:rs[j]? =some g:=by rw[hg,List.getD,List.getElem?_eq_getElem (by omega)];rfl
 refine ⟨?_,take_more e1⟩
 rw[List.drop_eq_getElem_cons (show j<rs.length by omega)]
 congr 1
 have:=List.getElem?_eq_getElem (show j<rs.length by omega)
 rw[e1] at this
 simpa using this.symm
theorem refs_go (hn:rs.length=n) {j:Nat} (hj:j<n) {g:Int×Int} (hg:g=rs.getD j G0) (h:refsR [] rs=refsR (rs.take j) (rs.drop j)) (h1:refB g=true) (h2:memB (rs.take j) g=false):Hid (refsR [] rs=refsR (rs.take (j+1)) (rs.drop (j+1))):=by
 show _=_
 obtain ⟨e1,e2⟩:=rs_next hn hj hg
 rw[h,e1,refsR,if_neg (by simp[h1]),if_neg (by simp[h2]),e2]
theorem refs_bad (hn:rs.length=n) {j:Nat} (hj:j<n) {g:Int×Int} (hg:g=rs.getD j G0) (h:refsR [] rs=refsR (rs.take j) (rs.drop j)) (h1:refB g=false):refsR [] rs=3:=by
 obtain ⟨e1,e2⟩:=rs_next hn hj hg
 rw[h,e1,refsR,if_pos h1]
theorem refs_taken (hn:rs.length=n) {j:Nat} (hj:j<n) {g:Int×Int} (hg:g=rs.getD j G0) (h:refsR [] rs=refsR (rs.take j) (rs.drop j)) (h1:refB g=true) (h2:memB (rs.take j) g=true):refsR [] rs=7:=by
 obtain ⟨e1,e2⟩:=rs_next hn hj hg
 rw[h,e1,refsR,if_neg (by simp[h1]),if_pos h2]
theorem refs_done (hn:rs.length=n) {j:Nat} (hj:¬j<n) (h:refsR [] rs=refsR (rs.take j) (rs.drop j)):refsR [] rs=0:=by
 rw[h,List.drop_of_length_le (by omega)];rfl
end
set_option maxRecDepth 20000 in
set_option maxHeartbeats 4000000 in
theorem l3Fault_any (P n c m d:Nat) (ia oa:Option Addr) (k f:Int) (rs:List (Int×Int)) (os:List Ou) (w:World) (hn:n≤1048576) (hm:m≤1048576) (hc1:n≤c) (hc2:c≤maxLen) (hk:∀j,j<m→(os.getD j O0).l.length≤1048576) (h:TxAt w ia n oa m rs os)
 (hP:w.heap[P]? =some (.cells #[.int .i64 k,.int .i64 f,.slice ia n c,.slice oa m d] 32 (0,0))):
 Calls Tryz.prog 28 #[.pointer (some ⟨P,0,none⟩)] w fun e w'=>e= .returned (.int .i64 (txR k f rs os))∧Below w.heap.size w w':=by
 unfold maxLen at hc2
 obtain ⟨p0,p1,p2,p3,_⟩:=cells4 hP
 have hPl:=lt_of_block hP
 have HP:Hid (w.heap[P]? =some (.cells #[.int .i64 k,.int .i64 f,.slice ia n c,.slice oa m d] 32 (0,0))):=hP
 have HR:Hid (GAt w ia n rs):=h.r
 have HO:Hid (OAt w oa m os):=h.o
 have HN:Hid (rs.length=n):=h.r.1
 have HM:Hid (os.length=m):=h.o.1
 have HK:Hid (∀j,j<m→(os.getD j O0).l.length≤1048576):=hk
 obtain ⟨r,hr⟩:∃r,r=txR k f rs os:=⟨_,rfl⟩
 rw[←hr]
 have HV:Hid (r=txR k f rs os):=hr
 obtain ⟨b1,hb1⟩:∃b,b=inB k 0 2:=⟨_,rfl⟩
 obtain ⟨bf,hbf⟩:∃b,b=inB f 1 999:=⟨_,rfl⟩
 obtain ⟨bn,hbn⟩:∃b,b=inB n 1 4:=⟨_,rfl⟩
 obtain ⟨bm,hbm⟩:∃b,b=inB m 1 4:=⟨_,rfl⟩
 have h1:∀v,Calls Tryz.prog 60 #[.int .i64 k,.int .i64 0,.int .i64 2] v fun e w'=>e= .returned (.bool b1)∧w'=v:=fun v=>by rw[hb1];exact l1In_any _ _ _ v
 have h2:∀v,Calls Tryz.prog 59 #[.int .i64 f] v fun e w'=>e= .returned (.bool bf)∧w'=v:=fun v=>by rw[hbf];exact l1Key_any _ v
 have h3:∀v,Calls Tryz.prog 60 #[.int .i64 n,.int .i64 1,.int .i64 4] v fun e w'=>e= .returned (.bool bn)∧w'=v:=fun v=>by rw[hbn];exact l1In_any _ _ _ v
 have h4:∀v,Calls Tryz.prog 60 #[.int .i64 m,.int .i64 1,.int .i64 4] v fun e w'=>e= .returned (.bool bm)∧w'=v:=fun v=>by rw[hbm];exact l1In_any _ _ _ v
 have HB1:Hid (b1=inB k 0 2):=hb1
 have HBF:Hid (bf=inB f 1 999):=hbf
 have HBN:Hid (bn=inB n 1 4):=hbn
 have HBM:Hid (bm=inB m 1 4):=hbm
 clear hP h hk hr hb1 hbf hbn hbm
 cases b1
 ·obtain rfl:r=1:=by rw[HV.out];exact txR_form (.inl HB1.out.symm)
  go_enter Tryz.func28,Tryz.ntmps28
  go_wp2
  go_quiet (first|(go_at_call 60;refine Calls.quiet_of_same (h1 _)))
  go_wp2
  go_ret
  exact ⟨rfl,Joins.below_draws _ _ _⟩
 by_cases hiff:¬(k=0↔f=0)
 ·obtain rfl:r=1:=by rw[HV.out];exact txR_form (.inr hiff)
  by_cases hk0:k=0
  ·have hf0:¬f=0:=fun e=>hiff ⟨fun _=>e,fun _=>hk0⟩
   have hfb:(f==0)=false:=by simpa using hf0
   subst hk0
   go_enter Tryz.func28,Tryz.ntmps28
   go_wp2
   go_quiet (first|(go_at_call 60;refine Calls.quiet_of_same (h1 _)))
   go_wp2
   go_ret
   exact ⟨rfl,Joins.below_draws _ _ _⟩
  ·have hf0:f=0:=Classical.not_not.1 fun e=>hiff ⟨fun h=>absurd h hk0,fun h=>absurd h e⟩
   have hkb:(k==0)=false:=by simpa using hk0
   subst hf0
   go_enter Tryz.func28,Tryz.ntmps28
   go_wp2
   go_quiet (first|(go_at_call 60;refine Calls.quiet_of_same (h1 _)))
   go_wp2
   go_ret
   exact ⟨rfl,Joins.below_draws _ _ _⟩
 replace hiff:k=0↔f=0:=Classical.not_not.1 hiff
 by_cases hrg:k≠0∧bf=false
 ·obtain ⟨hk0,rfl⟩:=hrg
  obtain rfl:r=3:=by rw[HV.out];exact txR_range HB1.out.symm hiff hk0 HBF.out.symm
  have hkb:(k==0)=false:=by simpa using hk0
  have hfb:(f==0)=false:=by simpa using fun e=>hk0 (hiff.2 e)
  have hf0:¬f=0:=fun e=>hk0 (hiff.2 e)
  clear hiff
  go_enter Tryz.func28,Tryz.ntmps28
  go_wp2
  go_quiet (first|(go_at_call 60;refine Calls.quiet_of_same (h1 _)))
  go_wp2_with (first|(go_at_call 59;refine (h2 _).mono ?_;rintro e w' ⟨rfl,hw⟩;have hw2:=hw.symm;subst hw2))
  go_ret
  exact ⟨rfl,Joins.below_draws _ _ _⟩
 have HRG:Hid (¬(k≠0∧inB f 1 999=false)):=by show ¬_;rw[←HBF.out];exact hrg
 have HIF:Hid (k=0↔f=0):=hiff
 by_cases hmn:bn=false∨bm=false
 ·obtain rfl:r=2:=by rw[HV.out];exact txR_many HN.out HM.out HB1.out.symm HIF.out HRG.out (by rw[←HBN.out,←HBM.out];exact hmn)
  have hmn2:bn=false∨bn=true∧bm=false:=by rcases hmn with h|h<;>cases bn<;>simp_all
  clear hmn
  by_cases hk0:k=0
  ·obtain rfl:f=0:=hiff.1 hk0
   subst hk0
   clear hiff hrg
   rcases hmn2 with rfl|⟨rfl,rfl⟩
   all_goals
    go_enter Tryz.func28,Tryz.ntmps28
    go_wp2
    go_quiet (first|(go_at_call 60;refine Calls.quiet_of_same (h1 _)))
    go_wp2_with (first|(go_at_call 60;(first|(with_reducible refine (h3 _).mono ?_;skip)|(with_reducible refine (h4 _).mono ?_;skip));rintro e w' ⟨rfl,hw⟩;have hw2:=hw.symm;subst hw2))
    go_ret
    exact ⟨rfl,Joins.below_draws _ _ _⟩
  ·have hkb:(k==0)=false:=by simpa using hk0
   have hf0:¬f=0:=fun e=>hk0 (hiff.2 e)
   have hfb:(f==0)=false:=by simpa using hf0
   obtain rfl:bf=true:=by cases bf;exact absurd ⟨hk0,rfl⟩ hrg;rfl
   clear hiff hrg
   rcases hmn2 with rfl|⟨rfl,rfl⟩
   all_goals
    go_enter Tryz.func28,Tryz.ntmps28
    go_wp2
    go_quiet (first|(go_at_call 60;refine Calls.quiet_of_same (h1 _)))
    go_wp2_with (first|(go_at_call 59;refine (h2 _).mono ?_;rintro e w' ⟨rfl,hw⟩;have hw2:=hw.symm;subst hw2)|(go_at_call 60;(first|(with_reducible refine (h3 _).mono ?_;skip)|(with_reducible refine (h4 _).mono ?_;skip));rintro e w' ⟨rfl,hw⟩;have hw2:=hw.symm;subst hw2))
    go_ret
    exact ⟨rfl,Joins.below_draws _ _ _⟩
 obtain rfl:bn=true:=by cases bn<;>simp_all
 obtain rfl:bm=true:=by cases bm<;>simp_all
 have HREST:Hid (r=if refsR [] rs≠0 then refsR [] rs else joinR k os):=by show _=_;rw[HV.out];exact txR_rest HN.out HM.out HB1.out.symm HIF.out HRG.out HBN.out.symm HBM.out.symm
 have hn4:=inB_true.1 HBN.out.symm
 have hm4:=inB_true.1 HBM.out.symm
 clear hmn HV
 rcases (show (k=0∧f=0)∨((k==0)=false∧(f==0)=false∧¬k=0∧¬f=0∧bf=true) by
  by_cases hk0:k=0
  ·exact .inl ⟨hk0,hiff.1 hk0⟩
  ·have hf0:¬f=0:=fun e=>hk0 (hiff.2 e)
   refine .inr ⟨by simpa using hk0,by simpa using hf0,hk0,hf0,?_⟩
   cases bf
   ·exact absurd ⟨hk0,rfl⟩ hrg
   ·rfl) with ⟨rfl,rfl⟩|⟨hkb,hfb,hk0,hf0,rfl⟩
 all_goals
  clear hiff hrg
  go_enter Tryz.func28,Tryz.ntmps28
  go_wp2
  go_quiet (first|(go_at_call 60;refine Calls.quiet_of_same (h1 _)))
  go_wp2_with (first|(go_at_call 59;refine (h2 _).mono ?_;rintro e w' ⟨rfl,hw⟩;have hw2:=hw.symm;subst hw2)|(go_at_call 60;(first|(with_reducible refine (h3 _).mono ?_;skip)|(with_reducible refine (h4 _).mono ?_;skip));rintro e w' ⟨rfl,hw⟩;have hw2:=hw.symm;subst hw2))
  clear h1 h2 h3 h4
  go_loopw [3] (fun i wr=>∃j:Nat,j≤n∧i= .int .i64 j∧Below w.heap.size w wr∧Hid (refsR [] rs=refsR (rs.take j) (rs.drop j))) (fun i _=>n-(intOf i).toNat)
  case atStart=>exact ⟨0,Nat.zero_le _,rfl,Joins.below_draws _ _ _,by show _=_;simp⟩
  case round=>
   obtain ⟨j,hj,rfl,hbel,HT⟩:=hrel
   have y2:=(hbel.cell (p:=⟨P,2,none⟩) hPl).trans p2
   by_cases hlt:j<n
   ·rcases HR.out.2 with h0|⟨b,off,ha,hb,hc⟩
    ·omega
    subst ha
    obtain ⟨g,hg⟩:∃g,g=rs.getD j G0:=⟨_,rfl⟩
    have hcx:=hc j hlt
    rw[←hg] at hcx
    obtain ⟨g1,g2⟩:=g
    have c0:=(hbel.cell (p:=⟨b,off+j*2,none⟩) hb).trans hcx.1
    have c1:=(hbel.cell (p:=⟨b,off+j*2+1,none⟩) hb).trans hcx.2
    have HG:Hid ((g1,g2)=rs.getD j G0):=hg
    have hki:(j:Int)<(n:Int):=by omega
    have hkc:(j:Int)≤(c:Int):=by omega
    have hkm:j≤maxLen:=by unfold maxLen;omega
    obtain ⟨kr,hkr⟩:∃b,b=refB (g1,g2):=⟨_,rfl⟩
    have hrf:=l3Ref_any g1 g2 wr
    rw[←hkr] at hrf
    have HKR:Hid (kr=refB (g1,g2)):=hkr
    clear hg hc hcx hkr
    cases kr
    ·obtain rfl:r=3:=by have e1:=refs_bad HN.out hlt HG.out HT.out HKR.out.symm;rw[HREST.out,e1];rfl
     go_wp2_with (first|(go_at_call 62;refine hrf.mono ?_;rintro e w2 ⟨rfl,hb2⟩))
     go_ret
     exact ⟨rfl,hbel.trans (hb2.mono hbel.size)⟩
    ·obtain ⟨mb,hmb⟩:∃b,b=memB (rs.take j) (g1,g2):=⟨_,rfl⟩
     have HMB:Hid (memB (rs.take j) (g1,g2)=mb):=hmb.symm
     clear hmb
     go_wp2_with (first|(go_at_call 62;refine hrf.mono ?_;rintro e w2 ⟨rfl,hb2⟩;have hbw:Below w.heap.size w w2:=hbel.trans (hb2.mono hbel.size);have z2:=(hbw.cell (p:=⟨P,2,none⟩) hPl).trans p2;have x0:=(hb2.cell (p:=⟨b,off+j*2,none⟩) (Nat.lt_of_lt_of_le hb hbel.size)).trans c0;have x1:=(hb2.cell (p:=⟨b,off+j*2+1,none⟩) (Nat.lt_of_lt_of_le hb hbel.size)).trans c1;clear hb2))
     have hPw:P<w2.heap.size:=Nat.lt_of_lt_of_le hPl hbw.size
     have hbw2:b<w2.heap.size:=Nat.lt_of_lt_of_le hb hbw.size
     have ham:Calls Tryz.prog 65 #[.slice (some ⟨b,off,none⟩) j c,.agg #[.int .i64 g1,.int .i64 g2]] w2.drew fun e w'=>e= .returned (.bool mb)∧Below w2.heap.size w2 w':=by
      have:=l3Among_any (some ⟨b,off,none⟩) j c (rs.take j) g1 g2 w2.drew hkm (((HR.out.below hbw (Nat.le_refl _)).take hj).below (Below.refl _ _).drew (Nat.le_refl _))
      rw[HMB.out] at this
      exact this.mono fun e w' h=>⟨h.1,(Below.refl _ _).drew.trans h.2⟩
     go_region_held3 (fun w'=>w'.cell? ⟨P,2,none⟩=some (.slice (some ⟨b,off,none⟩) n c)∧w'.cell? ⟨b,off+j*2,none⟩=some (.int .i64 g1)∧w'.cell? ⟨b,off+j*2+1,none⟩=some (.int .i64 g2)) (go_keep)
      (first|(go_at_call 65;refine ham.mono ?_;rintro e w3 ⟨rfl,hb3⟩;have q1:=(hb3.cell (p:=⟨P,2,none⟩) hPw).trans z2;have q2:=(hb3.cell (p:=⟨b,off+j*2,none⟩) hbw2).trans x0;have q3:=(hb3.cell (p:=⟨b,off+j*2+1,none⟩) hbw2).trans x1))
     cases mb
     ·go_wp2
      go_roundw
      case rel=>exact ⟨j+1,by omega,by go_num,hbw.trans (hb3.mono hbw.size),refs_go HN.out hlt HG.out HT.out HKR.out.symm HMB.out⟩
      case measure=>simp[intOf];omega
     ·obtain rfl:r=7:=by have e1:=refs_taken HN.out hlt HG.out HT.out HKR.out.symm HMB.out;rw[HREST.out,e1];rfl
      go_wp2
      go_ret
      exact ⟨rfl,hbw.trans (hb3.mono hbw.size)⟩
   ·have y0:=(hbel.cell (p:=⟨P,0,none⟩) hPl).trans p0
    have y3:=(hbel.cell (p:=⟨P,3,none⟩) hPl).trans p3
    have hlo:=l3Outs_any P m d oa os _ wr (by omega) hm HK.out (HO.out.below hbel (Nat.le_refl _)) (Nat.lt_of_lt_of_le hPl hbel.size) y0 y3
    have e1:=refs_done HN.out hlt HT.out
    have e2:=HREST.out
    rw[e1,if_neg (by simp)] at e2
    rw[←e2] at hlo
    clear e1 e2
    go_wp2_with (first|(go_at_call 66;refine hlo.mono ?_;rintro e w2 ⟨rfl,hb2⟩))
    go_ret
    exact ⟨rfl,hbel.trans (hb2.mono hbel.size)⟩
end Go.Proofs.YtagokfoimokniaaGreatDoor

namespace Go.Proofs.YtagokfoimokniaaGreatDoor
open Go.RowKit Go.Maps Go.WideMaps

def cmpI (a b : Int) : Int := if a < b then -1 else if b < a then 1 else 0
def cmpR (a b : Int × Int) : Int := if cmpI a.1 b.1 = 0 then cmpI a.2 b.2 else cmpI a.1 b.1
def outR (v : Int) (l : List Int) (x y : Int) : Int := if inB v 1 1000000 = false then 3 else ruleR l x y
def coinR (c : Co) : Int := if refB (c.p, c.q) = false ∨ inB c.h 0 999 = false then 3 else outR c.v c.l c.x c.y
def csR (pr : Int × Int) : List Co → Int
  | [] => 0
  | c :: t => if coinR c ≠ 0 then coinR c else if cmpR (c.p, c.q) pr ≤ 0 then 1 else csR (c.p, c.q) t
def prevR (cs : List Co) : Nat → Int × Int
  | 0 => (0, 0)
  | j + 1 => ((cs.getD j C0).p, (cs.getD j C0).q)
def coinsR (cs : List Co) : Int := if 40 < cs.length then 2 else csR (0, 0) cs

theorem cmpI_zero {a b : Int} : cmpI a b = 0 ↔ a = b := by
  unfold cmpI; by_cases h : a < b
  · simp [h]; omega
  · by_cases h2 : b < a
    · simp [h, h2]; omega
    · simp [h, h2]; omega
theorem cmpI_pos {a b : Int} : 0 < cmpI a b ↔ b < a := by
  unfold cmpI; by_cases h : a < b
  · simp [h]; omega
  · by_cases h2 : b < a <;> simp [h, h2]
theorem cmpR_pos {a b c d : Int} : 0 < cmpR (c, d) (a, b) ↔ a < c ∨ a = c ∧ b < d := by
  unfold cmpR
  by_cases h : c = a
  · subst h
    rw [if_pos (cmpI_zero.2 rfl), cmpI_pos]
    constructor
    · exact fun h => .inr ⟨rfl, h⟩
    · rintro (h | h)
      · omega
      · exact h.2
  · rw [if_neg (fun e => h (cmpI_zero.1 e)), cmpI_pos]
    constructor
    · exact .inl
    · rintro (h' | h')
      · exact h'
      · exact absurd h'.1.symm h
theorem cmpR_neg {a b c d : Int} : cmpR (a, b) (c, d) < 0 ↔ a < c ∨ (a = c ∧ b < d) := by
  unfold cmpR cmpI
  simp only
  split <;> split <;> (try split) <;> omega
theorem coin_first {c : Co} (h : coinR c = 0) : ¬ cmpR (c.p, c.q) (0, 0) ≤ 0 := by
  have h1 : refB (c.p, c.q) = true := by
    cases e : refB (c.p, c.q)
    · unfold coinR at h; rw [if_pos (.inl e)] at h; cases h
    · rfl
  have h2 : 1 ≤ c.p := by
    simp [refB, inB] at h1
    omega
  have := (cmpR_pos (a := 0) (b := 0) (c := c.p) (d := c.q)).2 (.inl (by omega))
  omega
theorem csR_bad {c : Co} {t : List Co} {pr : Int × Int} {r : Int} (h : coinR c = r) (h0 : r ≠ 0) : csR pr (c :: t) = r := by rw [csR, h, if_pos h0]
theorem csR_form {c : Co} {t : List Co} {pr : Int × Int} (h : coinR c = 0) (h1 : cmpR (c.p, c.q) pr ≤ 0) : csR pr (c :: t) = 1 := by rw [csR, h, if_neg (by simp), if_pos h1]
theorem csR_go {c : Co} {t : List Co} {pr : Int × Int} (h : coinR c = 0) (h1 : ¬ cmpR (c.p, c.q) pr ≤ 0) : csR pr (c :: t) = csR (c.p, c.q) t := by rw [csR, h, if_neg (by simp), if_neg h1]
theorem prevR_succ {cs : List Co} {j : Nat} {o : Co} (ho : o = cs.getD j C0) : prevR cs (j + 1) = (o.p, o.q) := by rw [ho]; rfl
theorem next_coin {cs : List Co} {n j : Nat} {o : Co} (hn : cs.length = n) (hlt : j < n) (ho : o = cs.getD j C0) : cs.drop j = o :: cs.drop (j + 1) := by
  rw [ho, List.drop_eq_getElem_cons (by omega)]
  simp [List.getElem?_eq_getElem (show j < cs.length by omega)]

theorem l4Ahead_any (a b c d : Int) (w : World) : Calls Tryz.prog 64 #[.agg #[.int .i64 a, .int .i64 b], .agg #[.int .i64 c, .int .i64 d]] w fun e w' => e = .returned (.bool (decide (0 < cmpR (c, d) (a, b)))) ∧ Below w.heap.size w w' := by
  have hbx : Below w.heap.size w ((w.alloc (.cells #[.int .i64 a, .int .i64 b] 47)).alloc (.cells #[.int .i64 c, .int .i64 d] 47)) := below_box2 _ _
  by_cases h : a = c
  · subst h
    have hv : decide (0 < cmpR (a, d) (a, b)) = decide (b < d) := by
      rw [decide_eq_decide, cmpR_pos]; constructor
      · rintro (h | h)
        · omega
        · exact h.2
      · exact fun h => .inr ⟨rfl, h⟩
    rw [hv]
    go_enter Tryz.func64, Tryz.ntmps64
    go_wp2
    go_ret
    exact ⟨rfl, hbx⟩
  · have e : (a != c) = true := by simp [h]
    have hv : decide (0 < cmpR (c, d) (a, b)) = decide (a < c) := by
      rw [decide_eq_decide, cmpR_pos]; constructor
      · rintro (h' | h')
        · exact h'
        · exact absurd h'.1 h
      · exact .inl
    rw [hv]
    go_enter Tryz.func64, Tryz.ntmps64
    go_wp2
    go_ret
    exact ⟨rfl, hbx⟩

theorem l4Out_any (P q n cap : Nat) (a : Option Addr) (v : Int) (l : List Int) (x y : Int) (w : World) (hl : n ≤ 1048576) (hI : IAt w a n l) (hPl : P < w.heap.size) (pv : w.cell? ⟨P, q, none⟩ = some (.int .i64 v)) (p0 : w.cell? ⟨P, q + 1, none⟩ = some (.slice a n cap)) (p1 : w.cell? ⟨P, q + 2, none⟩ = some (.int .i64 x)) (p2 : w.cell? ⟨P, q + 3, none⟩ = some (.int .i64 y)) :
    Calls Tryz.prog 63 #[.pointer (some ⟨P, q, none⟩)] w fun e w' => e = .returned (.int .i64 (outR v l x y)) ∧ Below w.heap.size w w' := by
  have hlf := l2FaultAt_any P (q + 1) n cap a l x y w hl hI hPl p0 p1 p2
  obtain ⟨kv, hkv⟩ : ∃ k, k = inB v 1 1000000 := ⟨_, rfl⟩
  have hin : ∀ u, Calls Tryz.prog 60 #[.int .i64 v, .int .i64 1, .int .i64 1000000] u fun e w' => e = .returned (.bool kv) ∧ w' = u := fun u => by rw [hkv]; exact l1In_any _ _ _ u
  cases kv
  · have e : outR v l x y = 3 := by unfold outR; rw [if_pos hkv.symm]
    rw [e]
    clear hkv e hI
    go_enter Tryz.func63, Tryz.ntmps63
    go_wp2_with (go_at_call 60; refine (hin _).mono ?_; rintro e w' ⟨rfl, hw⟩; have hw2 := hw.symm; subst hw2)
    go_ret
    exact ⟨rfl, Below.refl _ _⟩
  · have e : outR v l x y = ruleR l x y := by unfold outR; rw [if_neg (by rw [← hkv]; simp)]
    rw [e]
    clear hkv e hI
    go_enter Tryz.func63, Tryz.ntmps63
    go_wp2_with (first | (go_at_call 60; refine (hin _).mono ?_; rintro e w' ⟨rfl, hw⟩; have hw2 := hw.symm; subst hw2) | (go_at_call 115; refine hlf.mono ?_; rintro e w3 ⟨rfl, hb3⟩))
    go_ret
    exact ⟨rfl, hb3⟩

set_option maxRecDepth 20000 in
set_option maxHeartbeats 2000000 in
theorem l4Fault_any (n c : Nat) (a : Option Addr) (cs : List Co) (w : World) (hn : n ≤ 1048576) (hk : ∀ j, j < n → (cs.getD j C0).l.length ≤ 1048576) (hC : CAt w a n cs) :
    Calls Tryz.prog 27 #[.slice a n c] w fun e w' => e = .returned (.int .i64 (coinsR cs)) ∧ Below w.heap.size w w' := by
  have HC : Hid (CAt w a n cs) := hC
  have HN : Hid (cs.length = n) := hC.1
  have HKL : Hid (∀ j, j < n → (cs.getD j C0).l.length ≤ 1048576) := hk
  obtain ⟨r, hr⟩ : ∃ r, r = coinsR cs := ⟨_, rfl⟩
  rw [← hr]
  have HR : Hid (r = coinsR cs) := hr
  clear hC hk hr
  by_cases h40 : 40 < n
  · obtain rfl : r = 2 := by rw [HR.out]; unfold coinsR; rw [if_pos (by rw [HN.out]; exact h40)]
    go_enter Tryz.func27, Tryz.ntmps27
    go_wp2
    go_ret
    exact ⟨rfl, Below.refl _ _⟩
  have HR2 : Hid (r = csR (0, 0) cs) := by show _ = _; rw [HR.out]; unfold coinsR; rw [if_neg (by rw [HN.out]; exact h40)]
  go_enter Tryz.func27, Tryz.ntmps27
  go_wp2
  go_loopw [3] (fun i wr => ∃ j : Nat, j ≤ n ∧ i = .int .i64 j ∧ Below w.heap.size w wr ∧ Hid (r = csR (prevR cs j) (cs.drop j))) (fun i _ => n - (intOf i).toNat)
  case atStart => exact ⟨0, Nat.zero_le _, rfl, Below.refl _ _, HR2.out⟩
  case round =>
    obtain ⟨j, hj, rfl, hbel, HT⟩ := hrel
    by_cases hlt : j < n
    · rcases HC.out.2 with h0 | ⟨b, off, e0, l0, d0⟩
      · omega
      subst e0
      obtain ⟨o, ho⟩ : ∃ o, o = cs.getD j C0 := ⟨_, rfl⟩
      obtain ⟨ka, kc, p0, p4, p5⟩ := d0 j hlt
      have hol := HKL.out j hlt
      rw [← ho] at p0 p4 p5 hol
      have HS : Hid (o = cs.getD j C0) := ho
      obtain ⟨op, oq, ov, ol, ox, oy, oh, om⟩ := o
      obtain ⟨x0, x1, x2, x3, x4, x5, x6, x7⟩ := p0.below hbel l0
      simp only at x0 x1 x2 x3 x4 x5 x6 x7 hol p5
      have HNX : Hid (cs.drop j = (⟨op, oq, ov, ol, ox, oy, oh, om⟩ : Co) :: cs.drop (j + 1)) := next_coin HN.out hlt HS.out
      have hlw : b < wr.heap.size := Nat.lt_of_lt_of_le l0 hbel.size
      obtain ⟨kr, hkr⟩ : ∃ k, k = refB (op, oq) := ⟨_, rfl⟩
      obtain ⟨kh, hkh⟩ : ∃ k, k = inB oh 0 999 := ⟨_, rfl⟩
      have hrf := l3Ref_any op oq wr
      rw [← hkr] at hrf
      have HKR : Hid (kr = refB (op, oq)) := hkr
      have hht : ∀ v, Calls Tryz.prog 29 #[.int .i64 oh] v fun e w' => e = .returned (.bool kh) ∧ w' = v := fun v => by rw [hkh]; exact l2Height_any _ v
      have HKH : Hid (kh = inB oh 0 999) := hkh
      have HI : Hid (IAt w ka ol.length ol) := p5
      obtain ⟨cd, hcd⟩ : ∃ c, c = outR ov ol ox oy := ⟨_, rfl⟩
      have HCD : Hid (cd = outR ov ol ox oy) := hcd
      clear ho p0 p4 p5 hkr hkh hcd
      have hki : (j : Int) < (n : Int) := by omega
      have HX : Hid (CoAt wr b (off + j * 8) ⟨op, oq, ov, ol, ox, oy, oh, om⟩ ka kc) := ⟨x0, x1, x2, x3, x4, x5, x6, x7⟩
      cases kr
      · obtain rfl : r = 3 := by
          have e : coinR ⟨op, oq, ov, ol, ox, oy, oh, om⟩ = 3 := by unfold coinR; rw [if_pos (.inl HKR.out.symm)]
          rw [HT.out, HNX.out, csR_bad e (by simp)]
        clear d0
        go_wp2_with (first | (go_at_call 62; refine hrf.mono ?_; clear hrf; rintro e w2 ⟨rfl, hb2⟩))
        go_ret
        exact ⟨rfl, hbel.trans (hb2.mono hbel.size)⟩
      cases kh
      · obtain rfl : r = 3 := by
          have e : coinR ⟨op, oq, ov, ol, ox, oy, oh, om⟩ = 3 := by unfold coinR; rw [if_pos (.inr HKH.out.symm)]
          rw [HT.out, HNX.out, csR_bad e (by simp)]
        clear d0
        go_wp2_with (first | (go_at_call 62; refine hrf.mono ?_; clear hrf; rintro e w2 ⟨rfl, hb2⟩; clear x0 x1 x2 x3 x4 x5 x6 x7; obtain ⟨x0, x1, x2, x3, x4, x5, x6, x7⟩ := HX.out.below hb2 hlw; simp only at x0 x1 x2 x3 x4 x5 x6 x7) | (go_at_call 29; refine (hht _).mono ?_; rintro e w' ⟨rfl, hw⟩; have hw2 := hw.symm; subst hw2))
        go_ret
        exact ⟨rfl, hbel.trans (hb2.mono hbel.size)⟩
      have HCE : Hid (coinR ⟨op, oq, ov, ol, ox, oy, oh, om⟩ = cd) := by
        show _ = _
        rw [HCD.out]; unfold coinR
        rw [if_neg]
        rintro (h | h)
        · rw [← HKR.out] at h; cases h
        · rw [← HKH.out] at h; cases h
      by_cases hc0 : cd = 0
      · have hcr := coin_first (HCE.out.trans hc0)
        simp only at hcr
        by_cases hj0 : ¬ (0 : Int) < (j : Int)
        · have hj00 : j = 0 := by omega
          have hcr2 : ¬ cmpR (op, oq) (prevR cs j) ≤ 0 := by rw [hj00]; exact hcr
          have HTN : Hid (r = csR (prevR cs (j + 1)) (cs.drop (j + 1))) := by
            show _ = _
            rw [HT.out, HNX.out, csR_go (HCE.out.trans hc0) hcr2, prevR_succ HS.out]
          have hd : decide (0 < j) = false := decide_eq_false (by omega)
          clear hj00 hcr2
          clear d0 hcr
          subst hc0
          go_wp2_with (first | (go_at_call 62; refine hrf.mono ?_; clear hrf; rintro e w2 ⟨rfl, hb2⟩; clear x0 x1 x2 x3 x4 x5 x6 x7; obtain ⟨x0, x1, x2, x3, x4, x5, x6, x7⟩ := HX.out.below hb2 hlw; simp only at x0 x1 x2 x3 x4 x5 x6 x7; have hlf := l4Out_any b (off + j * 8 + 2) ol.length kc ka ov ol ox oy w2 hol (HI.out.below (hbel.trans (hb2.mono hbel.size)) (Nat.le_refl _)) (Nat.lt_of_lt_of_le hlw hb2.size) x2 x3 x4 x5; rw [← HCD.out] at hlf) | (go_at_call 29; refine (hht _).mono ?_; rintro e w' ⟨rfl, hw⟩; have hw2 := hw.symm; subst hw2) | (go_at_call 63; refine hlf.mono ?_; clear hlf; rintro e w3 ⟨rfl, hb3⟩))
          go_quiet (fail)
          go_wp2
          go_roundw
          case rel => exact ⟨j + 1, by omega, by go_num, ((hbel.trans (hb2.mono hbel.size)).trans (hb3.mono (by have := hbel.size; have := hb2.size; omega))).trans (Joins.below_draws _ _ _), HTN⟩
          case measure => simp [intOf]; omega
        · have hj0 : (0 : Int) < (j : Int) := by omega
          have hd : decide (0 < j) = true := decide_eq_true (by omega)
          obtain ⟨i, hi⟩ : ∃ i, j = i + 1 := ⟨j - 1, by omega⟩
          have hsub : IntKind.i64.wrap ((j : Int) - 1) = (i : Int) := by rw [show (j : Int) - 1 = (i : Int) by omega]; exact IntWalk.i64_in _ (by omega)
          have HJI : Hid (j = i + 1) := hi
          obtain ⟨o1, ho1⟩ : ∃ o, o = cs.getD i C0 := ⟨_, rfl⟩
          obtain ⟨ja, jc, q0, _, _⟩ := d0 i (by omega)
          rw [← ho1] at q0
          have HS1 : Hid (o1 = cs.getD i C0) := ho1
          obtain ⟨np, nq, nv, nl, nx, ny, nh, nm⟩ := o1
          have HQ : Hid (CoAt wr b (off + i * 8) ⟨np, nq, nv, nl, nx, ny, nh, nm⟩ ja jc) := q0.below hbel l0
          obtain ⟨kb, hkb⟩ : ∃ k, k = decide (0 < cmpR (op, oq) (np, nq)) := ⟨_, rfl⟩
          have hpr : prevR cs j = (np, nq) := by rw [hi]; exact prevR_succ HS1.out
          have HKB : Hid (kb = decide (0 < cmpR (op, oq) (np, nq))) := hkb
          have HPR : Hid (prevR cs j = (np, nq)) := hpr
          have hkm : (i : Int) < (n : Int) := by omega
          have hk0 : (0 : Int) ≤ (i : Int) := by omega
          clear d0 hcr q0 ho1 hkb hpr hi
          subst hc0
          go_wp2_with (first | (go_at_call 62; refine hrf.mono ?_; clear hrf; rintro e w2 ⟨rfl, hb2⟩; clear x0 x1 x2 x3 x4 x5 x6 x7; obtain ⟨x0, x1, x2, x3, x4, x5, x6, x7⟩ := HX.out.below hb2 hlw; simp only at x0 x1 x2 x3 x4 x5 x6 x7; have hlf := l4Out_any b (off + j * 8 + 2) ol.length kc ka ov ol ox oy w2 hol (HI.out.below (hbel.trans (hb2.mono hbel.size)) (Nat.le_refl _)) (Nat.lt_of_lt_of_le hlw hb2.size) x2 x3 x4 x5; rw [← HCD.out] at hlf) | (go_at_call 29; refine (hht _).mono ?_; rintro e w' ⟨rfl, hw⟩; have hw2 := hw.symm; subst hw2) | (go_at_call 63; refine hlf.mono ?_; clear hlf; rintro e w3 ⟨rfl, hb3⟩))
          have hbw : Below w.heap.size w w3 := (hbel.trans (hb2.mono hbel.size)).trans (hb3.mono (by have := hbel.size; have := hb2.size; omega))
          have hbr : Below wr.heap.size wr w3 := hb2.trans (hb3.mono hb2.size)
          clear x0 x1 x2 x3 x4 x5 x6 x7
          obtain ⟨x0, x1, _⟩ := HX.out.below hbr hlw
          obtain ⟨y0, y1, _⟩ := HQ.out.below hbr hlw
          simp only at x0 x1 y0 y1
          have hl3 : b < w3.heap.size := Nat.lt_of_lt_of_le hlw hbr.size
          have hah : Calls Tryz.prog 64 #[.agg #[.int .i64 np, .int .i64 nq], .agg #[.int .i64 op, .int .i64 oq]] w3.drew fun e w' => e = .returned (.bool kb) ∧ Below w3.heap.size w3 w' := by
            rw [HKB.out]; exact (l4Ahead_any np nq op oq w3.drew).mono fun e w' h => ⟨h.1, (Below.refl _ _).drew.trans h.2⟩
          clear hb2 hb3 hbr
          go_region_held3 (fun w' => w'.cell? ⟨b, off + j * 8, none⟩ = some (.int .i64 op) ∧ w'.cell? ⟨b, off + j * 8 + 1, none⟩ = some (.int .i64 oq) ∧ w'.cell? ⟨b, off + i * 8, none⟩ = some (.int .i64 np) ∧ w'.cell? ⟨b, off + i * 8 + 1, none⟩ = some (.int .i64 nq)) (go_keep)
            (first | (go_at_call 64; refine hah.mono ?_; rintro e w4 ⟨rfl, hb4⟩; have z0 := (hb4.cell (p := ⟨b, off + j * 8, none⟩) hl3).trans x0; have z1 := (hb4.cell (p := ⟨b, off + j * 8 + 1, none⟩) hl3).trans x1; have z2 := (hb4.cell (p := ⟨b, off + i * 8, none⟩) hl3).trans y0; have z3 := (hb4.cell (p := ⟨b, off + i * 8 + 1, none⟩) hl3).trans y1))
          cases kb
          · obtain rfl : r = 1 := by
              have hle : cmpR (op, oq) (np, nq) ≤ 0 := by have := of_decide_eq_false HKB.out.symm; omega
              rw [HT.out, HNX.out, HPR.out, csR_form HCE.out hle]
            go_wp2
            go_ret
            exact ⟨rfl, hbw.trans (hb4.mono hbw.size)⟩
          · have HTN : Hid (r = csR (prevR cs (j + 1)) (cs.drop (j + 1))) := by
              have hle : ¬ cmpR (op, oq) (np, nq) ≤ 0 := by have := of_decide_eq_true HKB.out.symm; omega
              show _ = _
              rw [HT.out, HNX.out, HPR.out, csR_go HCE.out hle, prevR_succ HS.out]
            go_wp2
            go_roundw
            case rel => exact ⟨j + 1, by omega, by go_num, hbw.trans (hb4.mono hbw.size), HTN⟩
            case measure => simp [intOf]; omega
      · obtain rfl : r = cd := by rw [HT.out, HNX.out, csR_bad HCE.out hc0]
        clear d0
        go_wp2_with (first | (go_at_call 62; refine hrf.mono ?_; clear hrf; rintro e w2 ⟨rfl, hb2⟩; clear x0 x1 x2 x3 x4 x5 x6 x7; obtain ⟨x0, x1, x2, x3, x4, x5, x6, x7⟩ := HX.out.below hb2 hlw; simp only at x0 x1 x2 x3 x4 x5 x6 x7; have hlf := l4Out_any b (off + j * 8 + 2) ol.length kc ka ov ol ox oy w2 hol (HI.out.below (hbel.trans (hb2.mono hbel.size)) (Nat.le_refl _)) (Nat.lt_of_lt_of_le hlw hb2.size) x2 x3 x4 x5; rw [← HCD.out] at hlf) | (go_at_call 29; refine (hht _).mono ?_; rintro e w' ⟨rfl, hw⟩; have hw2 := hw.symm; subst hw2) | (go_at_call 63; refine hlf.mono ?_; clear hlf; rintro e w3 ⟨rfl, hb3⟩))
        go_ret
        exact ⟨rfl, (hbel.trans (hb2.mono hbel.size)).trans (hb3.mono (by have := hbel.size; have := hb2.size; omega))⟩
    · obtain rfl : r = 0 := by rw [HT.out, List.drop_eq_nil_of_le (by rw [HN.out]; omega)]; rfl
      go_wp2
      go_ret
      exact ⟨rfl, hbel⟩

end Go.Proofs.YtagokfoimokniaaGreatDoor
