/- The specification's l5World keeps its contract. -/
import Derived.Test.YtagokfoimokniaaGreatDoorJn9
import Derived.Test.YtagokfoimokniaaGreatDoorKb
import Derived.Test.YtagokfoimokniaaGreatDoorJn4
import Derived.Test.YtagokfoimokniaaGreatDoorJn5
namespace Go.Proofs.YtagokfoimokniaaGreatDoor
open Go.RowKit Go.Shelf Go.Maps Go.WideMaps
structure Wr where
 va:Option Addr
 vc:Nat
 cs:List Co
 k:Int
 f:Int
 ia:Option Addr
 ic:Nat
 rs:List (Int×Int)
 oa:Option Addr
 oc:Nat
 os:List Ou
abbrev Wr.cells (z:Wr):Array Value:=#[.int .i64 z.k,.int .i64 z.f,.slice z.ia z.rs.length z.ic,.slice z.oa z.os.length z.oc]
theorem oown_atY {w:World} {lo hi c:Nat} {a:Option Addr} {os:List Ou} {kv:Nat→Value} (h:OOwn w lo hi (.slice a os.length c) os.length (fun j=>os.getD j O0) kv) (hl:∀j,j<os.length→(os.getD j O0).l.length≤1048576):OAt w a os.length os:=by
 by_cases hn:os.length=0
 ·exact ⟨rfl,.inl hn⟩
 obtain ⟨xs,h1,_⟩:=h.row
 obtain ⟨g,cap,e⟩:=Joins.ownsRow_form h1 (by omega)
 cases e
 exact h.at rfl hl
theorem OOwn.lowY {V:World} {lo lo' hi n:Nat} {u:Value} {f:Nat→Ou} {kv:Nat→Value} (h:OOwn V lo hi u n f kv) (hle:lo'≤lo):OOwn V lo' hi u n f kv:=by
 obtain ⟨xs,h1,h2⟩:=h.row
 exact ⟨⟨xs,Joins.ownsRow_le h1 hle,h2⟩,h.top,fun j hj=>⟨Joins.ownsRow_le (h.keys j hj).1 hle,(h.keys j hj).2⟩,h.apart⟩
structure Wr.ok (z:Wr):Prop where
 k:KTB z.k z.f z.rs z.os
 c:z.cs.length≤42∧∀j,j<z.cs.length→(z.cs.getD j C0).l.length≤3
structure WL (w v V:World) (SB:Nat) (ca:Option Addr) (cn cc t LB TB:Nat) (ta:Option Addr) (n tc:Nat) (ga:Option Addr) (m gc:Nat) (ss:List ByteArray) (gs:List (Int×Int)) (z:Wr):Prop where
 src:Src w V SB ca cn cc t
 chg:Chg v V SB (SB+1)
 box:V.heap[LB]? =some (.cells #[.slice ta n tc,.slice ga m gc] 27 (0,0))
 rs:V.ownsRow (v.heap.size+2) 9 1 (.slice ta n tc) n (ss.map Value.string)
 rg:V.ownsRow (v.heap.size+2) 111 2 (.slice ga m gc) m (gcells gs)
 fine:Fine ss gs
 own:∃kv,COwn V (v.heap.size+2) LB (.slice z.va z.cs.length z.vc) z.cs.length (fun j=>z.cs.getD j C0) kv
 ref:V.ownsRow (v.heap.size+2) 47 2 (.slice z.ia z.rs.length z.ic) z.rs.length (gcells z.rs)
 out:∃kv,OOwn V (v.heap.size+2) LB (.slice z.oa z.os.length z.oc) z.os.length (fun j=>z.os.getD j O0) kv
 tb:V.heap[TB]? =some (.cells z.cells 32 (0,0))
 r0:V.heap[v.heap.size]? =some (.cells #[.slice none 0 0,.slice none 0 0] 27 (0,0))
 r1:V.heap[v.heap.size+1]? =some (.cells #[.int .i64 0,.int .i64 0,.slice none 0 0,.slice none 0 0] 32 (0,0))
 ord:SB<v.heap.size∧v.heap.size+1<TB∧TB<LB
theorem Fine.noteA {ss:List ByteArray} {gs:List (Int×Int)} (h:Fine ss gs) {x:ByteArray}:Fine (noteR ss gs x).s (noteR ss gs x).g:=by
 by_cases hx:x.size≤maxLen
 ·exact h.note hx
 ·have hx2:300<x.size:=by unfold maxLen at hx;omega
  unfold noteR
  split
  ·exact fine_nil
  ·rw[if_pos (.inr hx2)]
   exact fine_nil
theorem Fine.signA {ss:List ByteArray} {gs:List (Int×Int)} (h:Fine ss gs) {a b:Int}:Fine (Go.Proofs.YtagokfoimokniaaGreatDoor.signR ss gs a b).s (Go.Proofs.YtagokfoimokniaaGreatDoor.signR ss gs a b).g:=by
 by_cases hx:(1≤a∧a≤999)∧(1≤b∧b≤ss.length)
 ·by_cases hl:ss.length≤60
  ·exact h.signR (wf_small (by omega) (by omega)) (wf_small (by omega) (by omega))
  ·rw[signR_bad (c:=flt ss gs) rfl (by rw[flt_many rfl rfl (.inl (by omega))];decide)]
   exact fine_nil
 ·unfold Go.Proofs.YtagokfoimokniaaGreatDoor.signR
  split
  ·exact fine_nil
  ·rw[if_pos (by simp only[inB,decide_eq_false_iff_not];omega)]
   exact fine_nil
section
variable {w v V V':World} {SB cn cc t t' LB TB:Nat} {ca:Option Addr} {ta:Option Addr} {n tc:Nat} {ga:Option Addr} {m gc:Nat} {ss ss':List ByteArray} {gs gs':List (Int×Int)} {z:Wr}
theorem WL.draw (h:WL w v V SB ca cn cc t LB TB ta n tc ga m gc ss gs z) (hS:Src w V' SB ca cn cc t') (hc:Chg V V' SB (SB+1)):WL w v V' SB ca cn cc t' LB TB ta n tc ga m gc ss gs z:=by
 have ho:=h.ord
 obtain ⟨kv,hk⟩:=h.own
 obtain ⟨ku,hu⟩:=h.out
 exact ⟨hS,h.chg.trans hc,hc.keep1 h.box (by omega),hc.row1 h.rs (by omega),hc.row1 h.rg (by omega),h.fine,⟨kv,hk.chg hc (.inr (by omega))⟩,hc.row1 h.ref (by omega),⟨ku,hu.chg hc (.inr (by omega))⟩,hc.keep1 h.tb (by omega),hc.keep1 h.r0 (by omega),hc.keep1 h.r1 (by omega),ho⟩
theorem WL.step (h:WL w v V SB ca cn cc t LB TB ta n tc ga m gc ss gs z) (hb:Below V.heap.size V V'):WL w v V' SB ca cn cc t LB TB ta n tc ga m gc ss gs z:=h.draw (h.src.step hb) (Chg.of_below hb _ _)
theorem WL.led (h:WL w v V SB ca cn cc t LB TB ta n tc ga m gc ss gs z):LedAt V ta n ga m ss gs:=⟨satO h.rs,gatO h.rg⟩
theorem WL.caps (h:WL w v V SB ca cn cc t LB TB ta n tc ga m gc ss gs z):(n≤tc∧m≤gc∧tc≤maxLen∧gc≤maxLen)∧(ta=none→tc=0)∧(ga=none→gc=0):=
 ⟨⟨(row_caps h.rs).1,(row_caps h.rg).1,(row_caps h.rs).2.1,(row_caps h.rg).2.1⟩,(row_caps h.rs).2.2,(row_caps h.rg).2.2⟩
theorem WL.tx (h:WL w v V SB ca cn cc t LB TB ta n tc ga m gc ss gs z) (hz:z.ok):TxAt V z.ia z.rs.length z.oa z.os.length z.rs z.os:=by
 obtain ⟨ku,hu⟩:=h.out
 exact ⟨gat_ref h.ref rfl,oown_atY hu fun j hj=>by have:=hz.k.2.2 _ (getD_mem (d:=O0) hj);omega⟩
theorem WL.put (h:WL w v V SB ca cn cc t LB TB ta n tc ga m gc ss gs z) {a0 a1:Option Addr} {n' c0 m' c1 base:Nat} (hs:V.ownsRow base 9 1 (.slice a0 n' c0) n' (ss'.map Value.string)) (hg:V.ownsRow base 111 2 (.slice a1 m' c1) m' (gcells gs')) (hbase:v.heap.size+2≤base) (hf:Fine ss' gs'):
 WL w v ((V.setCell ⟨LB,0,none⟩ (.slice a0 n' c0)).setCell ⟨LB,1,none⟩ (.slice a1 m' c1)) SB ca cn cc t LB TB a0 n' c0 a1 m' c1 ss' gs' z:=by
 have ho:=h.ord
 have hb1:(V.setCell ⟨LB,0,none⟩ (.slice a0 n' c0)).heap[LB]? =some (.cells #[.slice a0 n' c0,.slice ga m gc] 27 (0,0)):=by
  have:=Joins.block_setCell (i:=0) h.box (.slice a0 n' c0)
  simpa using this
 have hb2:((V.setCell ⟨LB,0,none⟩ (.slice a0 n' c0)).setCell ⟨LB,1,none⟩ (.slice a1 m' c1)).heap[LB]? =some (.cells #[.slice a0 n' c0,.slice a1 m' c1] 27 (0,0)):=by
  have:=Joins.block_setCell (i:=1) hb1 (.slice a1 m' c1)
  simpa using this
 have kp:∀b,b≠LB→((V.setCell ⟨LB,0,none⟩ (.slice a0 n' c0)).setCell ⟨LB,1,none⟩ (.slice a1 m' c1)).heap[b]? =V.heap[b]? :=fun b hb=>
  (Below.heap_setCell _ ⟨LB,1,none⟩ _ b hb).trans (Below.heap_setCell _ ⟨LB,0,none⟩ _ b hb)
 have hC:Chg V ((V.setCell ⟨LB,0,none⟩ (.slice a0 n' c0)).setCell ⟨LB,1,none⟩ (.slice a1 m' c1)) LB (LB+1):=((Chg.refl _ _ _).setCell ⟨Nat.le_refl _,Nat.lt_succ_self _⟩ _).setCell ⟨Nat.le_refl _,Nat.lt_succ_self _⟩ _
 have hsb:=h.src.sb
 obtain ⟨kv,hk⟩:=h.own
 obtain ⟨ku,hu⟩:=h.out
 refine ⟨⟨(kp SB (by omega)).trans h.src.box,h.src.bel.trans (hC.below (by omega) h.src.bel.size),hsb⟩,?_,hb2,?_,?_,hf,⟨kv,hk.chg hC (.inl (Nat.le_refl _))⟩,?_,⟨ku,hu.chg hC (.inl (Nat.le_refl _))⟩,(kp TB (by omega)).trans h.tb,(kp _ (by omega)).trans h.r0,(kp _ (by omega)).trans h.r1,ho⟩
 ·exact ⟨hC.os.trans h.chg.os,hC.tape.trans h.chg.tape,hC.output.trans h.chg.output,Nat.le_trans h.chg.size hC.size,fun b hb hn=>(kp b (by omega)).trans (h.chg.block b hb hn)⟩
 ·exact Joins.ownsRow_le (row_set_other (row_set_other hs h.box (by decide) _) hb1 (by decide) _) hbase
 ·exact Joins.ownsRow_le (row_set_other (row_set_other hg h.box (by decide) _) hb1 (by decide) _) hbase
 ·exact row_set_other (row_set_other h.ref h.box (by decide) _) hb1 (by decide) _
theorem WL.note (h:WL w v V SB ca cn cc t LB TB ta n tc ga m gc ss gs z) (x:ByteArray):Calls Tryz.prog 47 #[.agg #[.slice ta n tc,.slice ga m gc],.string x] V fun e w'=>Below V.heap.size V w'∧∃r:LRes,(r.s.length≤60∧r.g.length≤120)∧Fine r.s r.g∧∃a0 c0 a1 c1,e= .returned (.agg #[.int .i64 r.c,.int .i64 r.i,.slice a0 r.s.length c0,.slice a1 r.g.length c1])∧
 w'.ownsRow V.heap.size 9 1 (.slice a0 r.s.length c0) r.s.length (r.s.map Value.string)∧w'.ownsRow V.heap.size 111 2 (.slice a1 r.g.length c1) r.g.length (gcells r.g):=by
 obtain ⟨⟨c1,c2,c3,c4⟩,c5,c6⟩:=h.caps
 refine (sNoteText_opt n m tc gc ta ga ss gs x V c1 c2 c3 c4 c5 c6 h.fine h.led).mono ?_
 rintro e w' ⟨hb,a0,d0,a1,d1,he,h0,h1⟩
 exact ⟨hb,_,noteR_small _ _ _,h.fine.noteA,a0,d0,a1,d1,he,h0,h1⟩
theorem WL.sign (h:WL w v V SB ca cn cc t LB TB ta n tc ga m gc ss gs z) (a b:Int):Calls Tryz.prog 50 #[.agg #[.slice ta n tc,.slice ga m gc],.int .i64 a,.int .i64 b] V fun e w'=>Below V.heap.size V w'∧∃r:LRes,(r.s.length≤60∧r.g.length≤120)∧Fine r.s r.g∧∃a0 c0 a1 c1,e= .returned (.agg #[.int .i64 r.c,.int .i64 r.i,.slice a0 r.s.length c0,.slice a1 r.g.length c1])∧
 w'.ownsRow V.heap.size 9 1 (.slice a0 r.s.length c0) r.s.length (r.s.map Value.string)∧w'.ownsRow V.heap.size 111 2 (.slice a1 r.g.length c1) r.g.length (gcells r.g):=by
 obtain ⟨⟨c1,c2,c3,c4⟩,c5,c6⟩:=h.caps
 refine (sSignId_opt n m tc gc ta ga ss gs a b V c1 c2 c3 c4 c5 c6 h.fine h.led).mono ?_
 rintro e w' ⟨hb,a0,d0,a1,d1,he,h0,h1⟩
 exact ⟨hb,_,signR_small _ _ _ _,h.fine.signA,a0,d0,a1,d1,he,h0,h1⟩
end
theorem DcS.atC {w v V V':World} {SB cn cc t vc:Nat} {ca va:Option Addr} {cs:List Co} (h:DcS w v V SB ca cn cc t va vc cs) (hc:Chg V V' SB (SB+1)):CAt V' va cs.length cs:=by
 obtain ⟨kv,hk⟩:=h.own
 have:=h.ord
 exact own_at2 (hk.chg hc (.inr (by omega))) rfl fun j hj=>by have:=h.len.2 j hj;omega
theorem WL.start {w v v2 v3:World} {SB cn cc t t1 t2 vc:Nat} {ca va:Option Addr} {cs:List Co} {k f:Int} {ia:Option Addr} {ic:Nat} {rs:List (Int×Int)} {oa:Option Addr} {oc:Nat} {os:List Ou} (h:Src w v SB ca cn cc t)
 (HD:DcS w ((v.alloc (.cells #[.slice none 0 0,.slice none 0 0] 27)).alloc (.cells #[.int .i64 0,.int .i64 0,.slice none 0 0,.slice none 0 0] 32)) v2 SB ca cn cc t1 va vc cs) (HO:OwT w v2 v3 SB ca cn cc t2 ia ic rs oa oc os):
 WL w v ((v3.alloc (.cells #[.int .i64 k,.int .i64 f,.slice ia rs.length ic,.slice oa os.length oc] 32)).alloc (.cells #[.slice none 0 0,.slice none 0 0] 27)) SB ca cn cc t2 (v3.heap.size+1) v3.heap.size none 0 0 none 0 0 [] [] ⟨va,vc,cs,k,f,ia,ic,rs,oa,oc,os⟩:=by
 have hlt:=h.lt
 have hs1:=HD.chg.size
 have hs2:=HO.chg.size
 simp at hs1
 obtain ⟨kv,hk⟩:=HD.own
 obtain ⟨ku,hu⟩:=HO.out
 have hb:Below v3.heap.size v3 ((v3.alloc (.cells #[.int .i64 k,.int .i64 f,.slice ia rs.length ic,.slice oa os.length oc] 32)).alloc (.cells #[.slice none 0 0,.slice none 0 0] 27)):=below_box2 _ _
 refine ⟨HO.src.step hb,?_,heap_at _ _ _ (by simp),World.ownsRow_nil _ _ _ _,World.ownsRow_nil _ _ _ _,fine_nil,⟨kv,((hk.chg HO.chg (.inr (by simp;omega))).below hb).lower (by simp) (by omega)⟩,Joins.ownsRow_le (((HO.ref).alloc _).alloc _) (by omega),⟨ku,((hu.below hb).lowY (by omega)).up (by omega)⟩,block_at2,?_,?_,⟨hlt,by show v.heap.size+1<v3.heap.size;omega,Nat.lt_succ_self _⟩⟩
 ·exact (((Chg.of_below (below_box2 _ _) _ _).trans HD.chg).trans HO.chg).trans (Chg.of_below hb _ _)
 ·exact (keepb (HO.chg.keep1 (HD.chg.keep1 block_at2 (by omega)) (by omega)) hb).out
 ·exact (keepb (HO.chg.keep1 (HD.chg.keep1 (heap_at _ _ _ (by simp)) (by omega)) (by omega)) hb).out
structure WD (w v V:World) (SB:Nat) (ca:Option Addr) (cn cc t:Nat) (ta:Option Addr) (n tc:Nat) (ga:Option Addr) (m gc:Nat) (ss:List ByteArray) (gs:List (Int×Int)) (z:Wr):Prop where
 src:Src w V SB ca cn cc t
 chg:Chg v V SB (SB+1)
 rs:V.ownsRow (v.heap.size+2) 9 1 (.slice ta n tc) n (ss.map Value.string)
 rg:V.ownsRow (v.heap.size+2) 111 2 (.slice ga m gc) m (gcells gs)
 fine:Fine ss gs
 own:∃kv,COwn V (v.heap.size+2) V.heap.size (.slice z.va z.cs.length z.vc) z.cs.length (fun j=>z.cs.getD j C0) kv
 ref:V.ownsRow (v.heap.size+2) 47 2 (.slice z.ia z.rs.length z.ic) z.rs.length (gcells z.rs)
 out:∃kv,OOwn V (v.heap.size+2) V.heap.size (.slice z.oa z.os.length z.oc) z.os.length (fun j=>z.os.getD j O0) kv
 ord:SB<v.heap.size
 ok:z.ok
def OutW (w v:World) (SB:Nat) (ca:Option Addr) (cn cc T:Nat) (e:Ending) (v':World):Prop:=
 ∃(t':Nat) (ta:Option Addr) (n tc:Nat) (ga:Option Addr) (m gc:Nat) (ss:List ByteArray) (gs:List (Int×Int)) (z:Wr),e= .returned (.tuple #[.agg #[.slice ta n tc,.slice ga m gc],.slice z.va z.cs.length z.vc,.agg z.cells])∧t'≤T∧(n≤60∧m≤120)∧Hid (WD w v v' SB ca cn cc t' ta n tc ga m gc ss gs z)
theorem WL.ret {w v V V':World} {SB cn cc t LB TB T:Nat} {ca:Option Addr} {ta:Option Addr} {n tc:Nat} {ga:Option Addr} {m gc:Nat} {ss:List ByteArray} {gs:List (Int×Int)} {z:Wr} (h:WL w v V SB ca cn cc t LB TB ta n tc ga m gc ss gs z) (hT:t≤T) (hz:z.ok) (hnm:n≤60∧m≤120) (hC:Chg V V' v.heap.size (v.heap.size+2)):
 OutW w v SB ca cn cc T (.returned (.tuple #[.agg #[.slice ta n tc,.slice ga m gc],.slice z.va z.cs.length z.vc,.agg z.cells])) V':=by
 have ho:=h.ord
 have hsb:=h.src.sb
 have hl:=lt_of_block h.box
 have hsz:=hC.size
 obtain ⟨kv,hk⟩:=h.own
 obtain ⟨ku,hu⟩:=h.out
 have rw2:∀{e:TypeId} {s:Nat} {u:Value} {q:Nat} {xs:List Value},V.ownsRow (v.heap.size+2) e s u q xs→V'.ownsRow (v.heap.size+2) e s u q xs:=fun hr=>hC.row hr fun b hb=> .inr (hr.lt b hb).1
 refine ⟨t,ta,n,tc,ga,m,gc,ss,gs,z,rfl,hT,hnm,⟨hC.keep h.src.box (.inl ho.1),h.src.bel.trans (hC.below (by omega) h.src.bel.size),hsb⟩,?_,rw2 h.rs,rw2 h.rg,h.fine,⟨kv,(hk.chg hC (.inr (Nat.le_refl _))).mono (by omega)⟩,rw2 h.ref,⟨ku,(hu.chg hC (.inr (Nat.le_refl _))).up (by omega)⟩,ho.1,hz⟩
 exact ⟨hC.os.trans h.chg.os,hC.tape.trans h.chg.tape,hC.output.trans h.chg.output,Nat.le_trans h.chg.size hsz,fun b hb hn=>(hC.block b (by omega) (.inl hb)).trans (h.chg.block b hb hn)⟩
set_option maxHeartbeats 1000000 in
theorem six_set {V:World} {R:Nat} {a0 a1 b0 b1 b2 b3:Value} {t0 t1:TypeId} (h0:V.heap[R]? =some (.cells #[a0,a1] t0 (0,0))) (h1:V.heap[R+1]? =some (.cells #[b0,b1,b2,b3] t1 (0,0))) (x0 x1 y0 y1 y2 y3:Value):
 (((((((V.setCell ⟨R,0,none⟩ x0).setCell ⟨R,1,none⟩ x1).setCell ⟨R+1,0,none⟩ y0).setCell ⟨R+1,1,none⟩ y1).setCell ⟨R+1,2,none⟩ y2).setCell ⟨R+1,3,none⟩ y3).cell? ⟨R,0,none⟩=some x0∧((((((V.setCell ⟨R,0,none⟩ x0).setCell ⟨R,1,none⟩ x1).setCell ⟨R+1,0,none⟩ y0).setCell ⟨R+1,1,none⟩ y1).setCell ⟨R+1,2,none⟩ y2).setCell ⟨R+1,3,none⟩ y3).cell? ⟨R,1,none⟩=some x1∧
  ((((((V.setCell ⟨R,0,none⟩ x0).setCell ⟨R,1,none⟩ x1).setCell ⟨R+1,0,none⟩ y0).setCell ⟨R+1,1,none⟩ y1).setCell ⟨R+1,2,none⟩ y2).setCell ⟨R+1,3,none⟩ y3).cell? ⟨R+1,0,none⟩=some y0∧((((((V.setCell ⟨R,0,none⟩ x0).setCell ⟨R,1,none⟩ x1).setCell ⟨R+1,0,none⟩ y0).setCell ⟨R+1,1,none⟩ y1).setCell ⟨R+1,2,none⟩ y2).setCell ⟨R+1,3,none⟩ y3).cell? ⟨R+1,1,none⟩=some y1∧
  ((((((V.setCell ⟨R,0,none⟩ x0).setCell ⟨R,1,none⟩ x1).setCell ⟨R+1,0,none⟩ y0).setCell ⟨R+1,1,none⟩ y1).setCell ⟨R+1,2,none⟩ y2).setCell ⟨R+1,3,none⟩ y3).cell? ⟨R+1,2,none⟩=some y2∧((((((V.setCell ⟨R,0,none⟩ x0).setCell ⟨R,1,none⟩ x1).setCell ⟨R+1,0,none⟩ y0).setCell ⟨R+1,1,none⟩ y1).setCell ⟨R+1,2,none⟩ y2).setCell ⟨R+1,3,none⟩ y3).cell? ⟨R+1,3,none⟩=some y3)∧
 Chg V ((((((V.setCell ⟨R,0,none⟩ x0).setCell ⟨R,1,none⟩ x1).setCell ⟨R+1,0,none⟩ y0).setCell ⟨R+1,1,none⟩ y1).setCell ⟨R+1,2,none⟩ y2).setCell ⟨R+1,3,none⟩ y3) R (R+2):=by
 obtain ⟨U,hU⟩:∃U,U=(V.setCell ⟨R,0,none⟩ x0).setCell ⟨R,1,none⟩ x1:=⟨_,rfl⟩
 have hb0:U.heap[R]? =some (.cells #[x0,x1] t0 (0,0)):=by
  have q1:(V.setCell ⟨R,0,none⟩ x0).heap[R]? =some (.cells #[x0,a1] t0 (0,0)):=by simpa using Joins.block_setCell (i:=0) h0 x0
  rw[hU]
  simpa using Joins.block_setCell (i:=1) q1 x1
 obtain ⟨c0,c1⟩:=cells2 hb0
 have hk:∀b,b≠R→U.heap[b]? =V.heap[b]? :=fun b hb=>by rw[hU];exact (Below.heap_setCell _ ⟨R,1,none⟩ _ b hb).trans (Below.heap_setCell _ ⟨R,0,none⟩ _ b hb)
 have h1':U.heap[R+1]? =some (.cells #[b0,b1,b2,b3] t1 (0,0)):=(hk _ (by omega)).trans h1
 have hC:Chg V U R (R+2):=by rw[hU];exact ((Chg.refl _ _ _).setCell ⟨Nat.le_refl _,by omega⟩ _).setCell ⟨Nat.le_refl _,by omega⟩ _
 rw[←hU]
 have hb1:((((U.setCell ⟨R+1,0,none⟩ y0).setCell ⟨R+1,1,none⟩ y1).setCell ⟨R+1,2,none⟩ y2).setCell ⟨R+1,3,none⟩ y3).heap[R+1]? =some (.cells #[y0,y1,y2,y3] t1 (0,0)):=by
  have q1:(U.setCell ⟨R+1,0,none⟩ y0).heap[R+1]? =some (.cells #[y0,b1,b2,b3] t1 (0,0)):=by simpa using Joins.block_setCell (i:=0) h1' y0
  have q2:((U.setCell ⟨R+1,0,none⟩ y0).setCell ⟨R+1,1,none⟩ y1).heap[R+1]? =some (.cells #[y0,y1,b2,b3] t1 (0,0)):=by simpa using Joins.block_setCell (i:=1) q1 y1
  have q3:(((U.setCell ⟨R+1,0,none⟩ y0).setCell ⟨R+1,1,none⟩ y1).setCell ⟨R+1,2,none⟩ y2).heap[R+1]? =some (.cells #[y0,y1,y2,b3] t1 (0,0)):=by simpa using Joins.block_setCell (i:=2) q2 y2
  simpa using Joins.block_setCell (i:=3) q3 y3
 obtain ⟨d0,d1,d2,d3,_⟩:=cells4 hb1
 have hh:((((U.setCell ⟨R+1,0,none⟩ y0).setCell ⟨R+1,1,none⟩ y1).setCell ⟨R+1,2,none⟩ y2).setCell ⟨R+1,3,none⟩ y3).heap[R]? =U.heap[R]? :=(Below.heap_setCell _ ⟨R+1,3,none⟩ _ R (by show R≠R+1;omega)).trans ((Below.heap_setCell _ ⟨R+1,2,none⟩ _ R (by show R≠R+1;omega)).trans ((Below.heap_setCell _ ⟨R+1,1,none⟩ _ R (by show R≠R+1;omega)).trans (Below.heap_setCell _ ⟨R+1,0,none⟩ _ R (by show R≠R+1;omega))))
 refine ⟨⟨(World.cell?_of_block hh).trans c0,(World.cell?_of_block hh).trans c1,d0,d1,d2,d3⟩,?_⟩
 have h4:=(((hC.setCell (g:=R+1) (t:=0) ⟨by omega,by omega⟩ y0).setCell (g:=R+1) (t:=1) ⟨by omega,by omega⟩ y1).setCell (g:=R+1) (t:=2) ⟨by omega,by omega⟩ y2).setCell (g:=R+1) (t:=3) ⟨by omega,by omega⟩ y3
 exact h4
set_option maxRecDepth 20000 in
set_option maxHeartbeats 8000000 in
theorem l5World_any (SB cn cc t:Nat) (ca:Option Addr) (l0:List Int) (w v:World) (ht:t≤400) (hcn:cn≤1048577) (hB:BAt w ca cn l0) (h:Src w v SB ca cn cc t):
 Calls Tryz.prog 17 #[.pointer (some ⟨SB,0,none⟩)] v fun e v'=>OutW w v SB ca cn cc (t+240) e v':=by
 have HBA:Hid (BAt w ca cn l0):=hB
 have HS:Hid (Src w v SB ca cn cc t):=h
 have hfl:=fieldLed
 have h1:=l4Right_any SB cn cc t ca l0 w ((v.alloc (.cells #[.slice none 0 0,.slice none 0 0] 27)).alloc (.cells #[.int .i64 0,.int .i64 0,.slice none 0 0,.slice none 0 0] 32)) (by omega) hcn hB (h.step (below_box2 _ _))
 clear hB h
 go_enter Tryz.func17,Tryz.ntmps17
 go_upto_region 4 with (first
  |(go_at_call 45;(with_reducible refine h1.mono ?_);clear h1;rintro e v2 ⟨cs,va,n,vc,t1,rfl,rfl,ht1,HD⟩;have h2:=l5Tx_any SB cn cc t1 cs.length vc ca va l0 cs w v2 (by omega) hcn HBA.out HD.out.src (by have:=HD.out.len.1;omega) (fun V hc=>HD.out.atC hc))
  |(go_at_call 46;(with_reducible refine h2.mono ?_);clear h2;rintro e v3 ⟨k,f,ia,ic,rs,oa,oc,os,t2,rfl,ht2,HK,HO⟩))
 obtain ⟨LB,hLB⟩:∃x,x=v3.heap.size+1:=⟨_,rfl⟩
 obtain ⟨TB,hTB⟩:∃x,x=v3.heap.size:=⟨_,rfl⟩
 have HW0':=WL.start (k:=k) (f:=f) HS.out HD.out HO.out
 have HZ:Hid (Wr.ok ⟨va,vc,cs,k,f,ia,ic,rs,oa,oc,os⟩):=⟨HK.out,HD.out.len⟩
 obtain ⟨z,hz⟩:∃x:Wr,x=⟨va,vc,cs,k,f,ia,ic,rs,oa,oc,os⟩:=⟨_,rfl⟩
 obtain ⟨V5,hV5⟩:∃x,x=((v3.alloc (.cells #[.int .i64 k,.int .i64 f,.slice ia rs.length ic,.slice oa os.length oc] 32)).alloc (.cells #[.slice none 0 0,.slice none 0 0] 27)):=⟨_,rfl⟩
 have hcl:Value.slice va cs.length vc= .slice z.va z.cs.length z.vc:=by rw[hz]
 rw[←hz] at HW0' HZ
 rw[←hV5,←hLB,←hTB] at HW0'
 rw[←hV5,←hLB,←hTB,hcl]
 have HW0:Hid (WL w v V5 SB ca cn cc t2 LB TB none 0 0 none 0 0 [] [] z):=HW0'
 have hLT:LB=TB+1:=by omega
 clear HW0' hcl hV5 hz HD HO HK HS hLB hTB
 subst hLT
 have ht2':t2≤t+211:=by omega
 have hnx:=l1Next_any SB cn cc t2 ca l0 3 w V5 (by omega) (by omega) hcn HBA.out HW0.out.src
 go_wp2_with (first
  |(go_at_call 18;(with_reducible refine hnx.mono ?_);clear hnx;rintro e V6 ⟨r,rfl,⟨hr0,hr1⟩,hS2,hc2⟩;have hr2:r<3:=hr1 (by omega);obtain ⟨k0,rfl⟩:=Int.eq_ofNat_of_zero_le hr0;have HW1:Hid (WL w v V6 SB ca cn cc (t2+1) (TB+1) TB none 0 0 none 0 0 [] [] z):=HW0.out.draw hS2 hc2;clear hS2 hc2 hr1 HW0))
 go_loopw [8] (fun i wr=>∃q:Nat,q≤2∧i= .int .i64 q∧∃t' ta n tc ga m gc ss gs,t'+q≤t+214∧(n≤60∧m≤120)∧Hid (WL w v wr SB ca cn cc t' (TB+1) TB ta n tc ga m gc ss gs z)) (fun i _=>(intOf i).toNat)
 case atStart=>exact ⟨k0,by omega,rfl,t2+1,none,0,0,none,0,0,[],[],by omega,⟨by omega,by omega⟩,HW1⟩
 case round=>
  obtain ⟨q,hq,rfl,t',ta,n,tc,ga,m,gc,ss,gs,htk,hnm,HW⟩:=hrel
  clear HW1
  by_cases hpos:0<q
  ·have hLd:=HW.out.step (Below.refl _ _).drew
   have hwd:=l1Word_any SB cn cc t' ca l0 w _ (by omega) hcn HBA.out hLd.src
   obtain ⟨q0,q1⟩:=cells2 HW.out.box
   have hLl:=lt_of_block HW.out.box
   have hord:=HW.out.ord
   have hvz:=HW.out.chg.size
   have HLD:Hid (WL w v wr.drew SB ca cn cc t' (TB+1) TB ta n tc ga m gc ss gs z):=hLd
   clear hLd
   have hki:0<(q:Int):=by omega
   go_wp2
   go_region_with (first
    |(go_at_call 48;refine hwd.mono ?_;rintro e u1 ⟨x,rfl,hxs,hS1,hC1⟩;have HL1:Hid (WL w v u1 SB ca cn cc (t'+1) (TB+1) TB ta n tc ga m gc ss gs z):=HLD.out.draw hS1 hC1;obtain ⟨y0,y1⟩:=cells2 HL1.out.box;clear hS1 hC1)
    |(go_at_call 47;refine (HL1.out.note x).mono ?_;rintro e u2 ⟨hb2,rr,hrr,hfr,a0,d0,a1,d1,rfl,ho2,hg2⟩;have HL2:Hid (WL w v u2 SB ca cn cc (t'+1) (TB+1) TB ta n tc ga m gc ss gs z):=HL1.out.step hb2;have hu1:=HL1.out.chg.size;have hlb:=lt_of_block HL1.out.box;have HP:Hid (WL w v ((u2.setCell ⟨TB+1,0,none⟩ (.slice a0 rr.s.length d0)).setCell ⟨TB+1,1,none⟩ (.slice a1 rr.g.length d1)) SB ca cn cc (t'+1) (TB+1) TB a0 rr.s.length d0 a1 rr.g.length d1 rr.s rr.g z):=HL2.out.put ho2 hg2 (by omega) hfr;obtain ⟨z0,z1⟩:=cells2 HL2.out.box;have z2:=Joins.unfrozen_of_block HL2.out.box 0;have z3:=Joins.unfrozen_of_block HL2.out.box 1;clear ho2 hg2 hb2 hfr))
   all_goals
    go_wp2
    go_roundw
    case rel=>exact ⟨q-1,by omega,by go_num,t'+1,_,_,_,_,_,_,_,_,by omega,hrr,HP⟩
    case measure=>simp[intOf];omega
  ·obtain rfl:q=0:=by omega
   obtain ⟨s0,s1,s2,s3⟩:=(cells4 HW.out.tb|>fun q=>⟨q.1,q.2.1,q.2.2.1,q.2.2.2.1⟩:_∧_∧_∧_)
   have HTX:=HW.out.tx HZ.out
   obtain ⟨hcr,hcs,_⟩:=row_caps HW.out.ref
   have htx:=sTxText_any z.rs.length z.ic z.os.length z.oc z.ia z.oa z.k z.f z.rs z.os wr (by have:=HZ.out.k.1;omega) (by have:=HZ.out.k.2.1;omega) hcr hcs (fun j hj=>by have:=HZ.out.k.2.2 _ (getD_mem (d:=O0) hj);omega) HTX
   obtain ⟨cd,hcd⟩:∃q,q=(ttR z.k z.f z.rs z.os).1:=⟨_,rfl⟩
   obtain ⟨bx,hbx⟩:∃q,q=str (ttR z.k z.f z.rs z.os).2:=⟨_,rfl⟩
   rw[←hcd,←hbx] at htx
   clear hcd hbx HTX hcr hcs
   by_cases hcz:cd=0
   rotate_left
   ·go_wp2_with (first|(go_at_call 30;(with_reducible refine htx.mono ?_);clear htx;rintro e V9 ⟨rfl,hb9⟩;have HW9:Hid (WL w v V9 SB ca cn cc t' (TB+1) TB ta n tc ga m gc ss gs z):=HW.out.step hb9;have HWA:Hid (WL w v (V9.alloc (.cells #[.int .i64 cd,.string bx] 43)) SB ca cn cc t' (TB+1) TB ta n tc ga m gc ss gs z):=HW9.out.step (below_box _);have HB9:Hid ((V9.alloc (.cells #[.int .i64 cd,.string bx] 43)).heap[V9.heap.size]? =some (.cells #[.int .i64 cd,.string bx] 43 (0,0))):=heap_alloc_new _ _;clear hb9 s0 s1 s2 s3))
    obtain ⟨s0,s1,s2,s3,_⟩:=cells4 HWA.out.tb
    obtain ⟨y0,y1⟩:=cells2 HWA.out.box
    obtain ⟨p0,p1⟩:=cells2 HWA.out.r0
    obtain ⟨p2,p3,p4,p5,f2,f3,f4,f5⟩:=cells4 HWA.out.r1
    have f0:=Joins.unfrozen_of_block HWA.out.r0 0
    have f1:=Joins.unfrozen_of_block HWA.out.r0 1
    have hord:=HWA.out.ord
    have n0:TB+1≠v.heap.size:=by omega
    have n1:TB+1≠v.heap.size+1:=by omega
    have n2:TB≠v.heap.size:=by omega
    have n3:TB≠v.heap.size+1:=by omega
    go_wp2
    go_region
    go_wp2
    obtain ⟨⟨j0,j1,j2,j3,j4,j5⟩,hC⟩:=six_set HWA.out.r0 HWA.out.r1 (.slice ta n tc) (.slice ga m gc) (.int .i64 z.k) (.int .i64 z.f) (.slice z.ia z.rs.length z.ic) (.slice z.oa z.os.length z.oc)
    refine bodyPost_ret (v:= .tuple #[.agg #[.slice ta n tc,.slice ga m gc],.slice z.va z.cs.length z.vc,.agg z.cells]) (by simp[results,Tryz.results17,go_sem,j0,j1,j2,j3,j4,j5]) rfl ?_
    exact HWA.out.ret (by omega) HZ.out (by omega) (hC.trans (Chg.of_below (Below.refl _ _).drew _ _))
   ·subst hcz
    go_wp2_with (first|(go_at_call 30;(with_reducible refine htx.mono ?_);clear htx;rintro e V9 ⟨rfl,hb9⟩;have HW9:Hid (WL w v V9 SB ca cn cc t' (TB+1) TB ta n tc ga m gc ss gs z):=HW.out.step hb9;have HWA:Hid (WL w v (V9.alloc (.cells #[.int .i64 0,.string bx] 43)) SB ca cn cc t' (TB+1) TB ta n tc ga m gc ss gs z):=HW9.out.step (below_box _);have HB9:Hid ((V9.alloc (.cells #[.int .i64 0,.string bx] 43)).heap[V9.heap.size]? =some (.cells #[.int .i64 0,.string bx] 43 (0,0))):=heap_alloc_new _ _;clear hb9 s0 s1 s2 s3))
    refine (l1Chance_any SB cn cc t' ca l0 10 w _ (by omega) (by omega) hcn HBA.out HWA.out.src).mono ?_
    rintro e V10 ⟨b,rfl,hS,hc⟩
    have HW10:Hid (WL w v V10 SB ca cn cc (t'+1) (TB+1) TB ta n tc ga m gc ss gs z):=HWA.out.draw hS hc
    have HB10:Hid (V10.heap[V9.heap.size]? =some (.cells #[.int .i64 0,.string bx] 43 (0,0))):=hc.keep1 HB9.out (by have:=HW9.out.ord;have:=lt_of_block HW9.out.box;omega)
    clear hS hc HWA HB9 HW9
    cases b
    rotate_left
    ·obtain ⟨s0,s1,s2,s3,_⟩:=cells4 HW10.out.tb
     obtain ⟨y0,y1⟩:=cells2 HW10.out.box
     obtain ⟨p0,p1⟩:=cells2 HW10.out.r0
     obtain ⟨p2,p3,p4,p5,f2,f3,f4,f5⟩:=cells4 HW10.out.r1
     have f0:=Joins.unfrozen_of_block HW10.out.r0 0
     have f1:=Joins.unfrozen_of_block HW10.out.r0 1
     have hord:=HW10.out.ord
     have n0:TB+1≠v.heap.size:=by omega
     have n1:TB+1≠v.heap.size+1:=by omega
     have n2:TB≠v.heap.size:=by omega
     have n3:TB≠v.heap.size+1:=by omega
     go_wp2
     go_region
     go_wp2
     obtain ⟨⟨j0,j1,j2,j3,j4,j5⟩,hC⟩:=six_set HW10.out.r0 HW10.out.r1 (.slice ta n tc) (.slice ga m gc) (.int .i64 z.k) (.int .i64 z.f) (.slice z.ia z.rs.length z.ic) (.slice z.oa z.os.length z.oc)
     refine bodyPost_ret (v:= .tuple #[.agg #[.slice ta n tc,.slice ga m gc],.slice z.va z.cs.length z.vc,.agg z.cells]) (by simp[results,Tryz.results17,go_sem,j0,j1,j2,j3,j4,j5]) rfl ?_
     exact HW10.out.ret (by omega) HZ.out (by omega) (hC.trans (Chg.of_below (Below.refl _ _).drew _ _))
    ·obtain ⟨y0,y1⟩:=cells2 HW10.out.box
     obtain ⟨w0,w1⟩:=cells2 HB10.out
     have hord:=HW10.out.ord
     go_wp2_with (first
      |(go_at_call 47;refine (HW10.out.note bx).mono ?_;rintro e V11 ⟨hb2,rr,hrr,hfr,a0,d0,a1,d1,rfl,ho2,hg2⟩;have HW11:Hid (WL w v V11 SB ca cn cc (t'+1) (TB+1) TB ta n tc ga m gc ss gs z):=HW10.out.step hb2;have hu1:=HW10.out.chg.size;have hlb:=lt_of_block HW10.out.box;have hlc:=lt_of_block HW11.out.box;obtain ⟨z0,z1⟩:=cells2 HW11.out.box;have z2:=Joins.unfrozen_of_block HW11.out.box 0;have z3:=Joins.unfrozen_of_block HW11.out.box 1;have HP:Hid (WL w v (((V11.setCell ⟨TB+1,0,none⟩ (.slice a0 rr.s.length d0)).setCell ⟨TB+1,1,none⟩ (.slice a1 rr.g.length d1)).alloc (.cells #[.int .i64 rr.c,.int .i64 rr.i,.slice a0 rr.s.length d0,.slice a1 rr.g.length d1] 105)) SB ca cn cc (t'+1) (TB+1) TB a0 rr.s.length d0 a1 rr.g.length d1 rr.s rr.g z):=(HW11.out.put ho2 hg2 (by omega) hfr).step (below_box _);have HX13:Hid ((((V11.setCell ⟨TB+1,0,none⟩ (.slice a0 rr.s.length d0)).setCell ⟨TB+1,1,none⟩ (.slice a1 rr.g.length d1)).alloc (.cells #[.int .i64 rr.c,.int .i64 rr.i,.slice a0 rr.s.length d0,.slice a1 rr.g.length d1] 105)).heap[V11.heap.size]? =some (.cells #[.int .i64 rr.c,.int .i64 rr.i,.slice a0 rr.s.length d0,.slice a1 rr.g.length d1] 105 (0,0))):=heap_at _ _ _ (by simp);clear ho2 hg2 hb2 hfr y0 y1 w0 w1))
     obtain ⟨rc,HRC⟩:∃q,Hid (q=rr.c):=⟨_,rfl⟩
     obtain ⟨ri,HRI⟩:∃q,Hid (q=rr.i):=⟨_,rfl⟩
     obtain ⟨x8,HX8⟩:∃q,Hid (q=Value.slice a0 rr.s.length d0):=⟨_,rfl⟩
     obtain ⟨x9,HX9⟩:∃q,Hid (q=Value.slice a1 rr.g.length d1):=⟨_,rfl⟩
     have hXL:TB+1<V11.heap.size:=by omega
     go_loopw [11] (fun j wr=>∃q:Nat,1≤q∧q≤7∧j= .int .i64 q∧∃t' ta n tc ga m gc ss gs,t'≤t+220+q∧(n≤60∧m≤120)∧Hid (WL w v wr SB ca cn cc t' (TB+1) TB ta n tc ga m gc ss gs z)∧Hid (wr.heap[V11.heap.size]? =some (.cells #[.int .i64 rc,.int .i64 ri,x8,x9] 105 (0,0)))) (fun j _=>7-(intOf j).toNat)
     case atStart=>exact ⟨1,by omega,by omega,rfl,t'+1,_,_,_,_,_,_,_,_,by omega,hrr,HP,by rw[HRC.out,HRI.out,HX8.out,HX9.out];exact HX13⟩
     case round=>
      clear HP HX13
      obtain ⟨q,hq1,hq7,rfl,t5,ta,n,tc,ga,m,gc,ss,gs,htk5,hnm5,HWq,HXq⟩:=hrel
      by_cases hlq:q<7
      ·have hli:(q:Int)<7:=by omega
       have hch:=l1Chance_any SB cn cc t5 ca l0 8 w wr (by omega) (by omega) hcn HBA.out HWq.out.src
       go_wp2_with fail
       refine hch.mono ?_
       clear hch
       rintro e V12 ⟨b,rfl,hS,hc⟩
       have HWr:Hid (WL w v V12 SB ca cn cc (t5+1) (TB+1) TB ta n tc ga m gc ss gs z):=HWq.out.draw hS hc
       have hlq2:=HWq.out.ord
       have HXr:Hid (V12.heap[V11.heap.size]? =some (.cells #[.int .i64 rc,.int .i64 ri,x8,x9] 105 (0,0))):=hc.keep1 HXq.out (by omega)
       clear hS hc HXq HWq
       cases b
       rotate_left
       ·go_wp2
        go_roundw
        case rel=>exact ⟨q+1,by omega,by omega,by go_num,t5+1,_,_,_,_,_,_,_,_,by omega,hnm5,HWr,HXr⟩
        case measure=>simp[intOf];omega
       ·obtain ⟨y0,y1⟩:=cells2 HWr.out.box
        obtain ⟨x0,x1,x2,x3,_⟩:=cells4 HXr.out
        go_wp2_with (first
         |(go_at_call 50;refine (HWr.out.sign (q:Int) ri).mono ?_;rintro e V13 ⟨hb3,r3,hr3,hf3,b0,e0,b1,e1,rfl,ho3,hg3⟩;have HWs:Hid (WL w v V13 SB ca cn cc (t5+1) (TB+1) TB ta n tc ga m gc ss gs z):=HWr.out.step hb3;have hu1:=HWr.out.chg.size;have hlb:=lt_of_block HWr.out.box;obtain ⟨z0,z1⟩:=cells2 HWs.out.box;have z2:=Joins.unfrozen_of_block HWs.out.box 0;have z3:=Joins.unfrozen_of_block HWs.out.box 1;have HPs:Hid (WL w v ((V13.setCell ⟨TB+1,0,none⟩ (.slice b0 r3.s.length e0)).setCell ⟨TB+1,1,none⟩ (.slice b1 r3.g.length e1)) SB ca cn cc (t5+1) (TB+1) TB b0 r3.s.length e0 b1 r3.g.length e1 r3.s r3.g z):=HWs.out.put ho3 hg3 (by omega) hf3;have HXs:Hid (((V13.setCell ⟨TB+1,0,none⟩ (.slice b0 r3.s.length e0)).setCell ⟨TB+1,1,none⟩ (.slice b1 r3.g.length e1)).heap[V11.heap.size]? =some (.cells #[.int .i64 rc,.int .i64 ri,x8,x9] 105 (0,0))):=(Below.heap_setCell _ ⟨TB+1,1,none⟩ _ _ (by show V11.heap.size≠TB+1;omega)).trans ((Below.heap_setCell _ ⟨TB+1,0,none⟩ _ _ (by show V11.heap.size≠TB+1;omega)).trans (keepb HXr.out hb3).out);clear ho3 hg3 hf3 hb3))
        go_roundw
        case rel=>exact ⟨q+1,by omega,by omega,by go_num,t5+1,_,_,_,_,_,_,_,_,by omega,hr3,HPs,HXs⟩
        case measure=>simp[intOf];omega
      ·obtain rfl:q=7:=by omega
       obtain ⟨s0,s1,s2,s3,_⟩:=cells4 HWq.out.tb
       obtain ⟨y0,y1⟩:=cells2 HWq.out.box
       obtain ⟨p0,p1⟩:=cells2 HWq.out.r0
       obtain ⟨p2,p3,p4,p5,f2,f3,f4,f5⟩:=cells4 HWq.out.r1
       have f0:=Joins.unfrozen_of_block HWq.out.r0 0
       have f1:=Joins.unfrozen_of_block HWq.out.r0 1
       have hord:=HWq.out.ord
       have n0:TB+1≠v.heap.size:=by omega
       have n1:TB+1≠v.heap.size+1:=by omega
       have n2:TB≠v.heap.size:=by omega
       have n3:TB≠v.heap.size+1:=by omega
       go_wp2
       go_region
       go_wp2
       obtain ⟨⟨j0,j1,j2,j3,j4,j5⟩,hC⟩:=six_set HWq.out.r0 HWq.out.r1 (.slice ta n tc) (.slice ga m gc) (.int .i64 z.k) (.int .i64 z.f) (.slice z.ia z.rs.length z.ic) (.slice z.oa z.os.length z.oc)
       refine bodyPost_ret (v:= .tuple #[.agg #[.slice ta n tc,.slice ga m gc],.slice z.va z.cs.length z.vc,.agg z.cells]) (by simp[results,Tryz.results17,go_sem,j0,j1,j2,j3,j4,j5]) rfl ?_
       exact HWq.out.ret (by omega) HZ.out (by omega) (hC.trans (Chg.of_below (Below.refl _ _).drew _ _))
end Go.Proofs.YtagokfoimokniaaGreatDoor
