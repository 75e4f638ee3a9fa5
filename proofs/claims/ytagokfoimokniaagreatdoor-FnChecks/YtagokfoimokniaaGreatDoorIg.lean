/- DrawCheckTx. -/
import Derived.Test.YtagokfoimokniaaGreatDoorIf
import Derived.Test.YtagokfoimokniaaGreatDoorKb
import Derived.Test.YtagokfoimokniaaGreatDoorJn7
import Derived.Deep.DeepCutAuto
import Derived.Deep.CutBlock
namespace Go.Proofs.YtagokfoimokniaaGreatDoor
open Go.RowKit Go.Shelf Go.Maps Go.WideMaps
theorem iatF6 {V:World} {A:Nat} {a b c d e f:Int} (h:V.heap[A]? =some (.cells #[.int .i64 a,.int .i64 b,.int .i64 c,.int .i64 d,.int .i64 e,.int .i64 f] 2 (0,0))):IAt V (some ⟨A,0,none⟩) 6 [a,b,c,d,e,f]:=by
 refine ⟨rfl,.inr ⟨A,0,rfl,lt_of_block h,fun j hj=> ?_⟩⟩
 rw[Nat.zero_add]
 unfold World.cell?
 rw[h]
 match j,hj with
 |0,_=>rfl
 |1,_=>rfl
 |2,_=>rfl
 |3,_=>rfl
 |4,_=>rfl
 |5,_=>rfl
theorem two_far {W:World} {b c:Nat} (h:c≠b) (v0 v1:Value):((W.setCell ⟨b,0,none⟩ v0).setCell ⟨b,1,none⟩ v1).heap[c]? =W.heap[c]? :=
 (Below.heap_setCell _ ⟨b,1,none⟩ _ c h).trans (Below.heap_setCell _ ⟨b,0,none⟩ _ c h)
theorem four_farC {W:World} {b c:Nat} (h:c≠b) (v0 v1 v2 v3:Value):((((W.setCell ⟨b,0,none⟩ v0).setCell ⟨b,1,none⟩ v1).setCell ⟨b,2,none⟩ v2).setCell ⟨b,3,none⟩ v3).heap[c]? =W.heap[c]? :=
 (Below.heap_setCell _ ⟨b,3,none⟩ _ c h).trans ((Below.heap_setCell _ ⟨b,2,none⟩ _ c h).trans (two_far h v0 v1))
theorem four_boxC {W:World} {b:Nat} {c0 c1 c2 c3:Value} {t:TypeId} (h:W.heap[b]? =some (.cells #[c0,c1,c2,c3] t (0,0))) (v0 v1 v2 v3:Value):((((W.setCell ⟨b,0,none⟩ v0).setCell ⟨b,1,none⟩ v1).setCell ⟨b,2,none⟩ v2).setCell ⟨b,3,none⟩ v3).heap[b]? =some (.cells #[v0,v1,v2,v3] t (0,0)):=by
 have h1:(W.setCell ⟨b,0,none⟩ v0).heap[b]? =some (.cells #[v0,c1,c2,c3] t (0,0)):=by simpa using Joins.block_setCell (i:=0) h v0
 have h2:((W.setCell ⟨b,0,none⟩ v0).setCell ⟨b,1,none⟩ v1).heap[b]? =some (.cells #[v0,v1,c2,c3] t (0,0)):=by simpa using Joins.block_setCell (i:=1) h1 v1
 have h3:(((W.setCell ⟨b,0,none⟩ v0).setCell ⟨b,1,none⟩ v1).setCell ⟨b,2,none⟩ v2).heap[b]? =some (.cells #[v0,v1,v2,c3] t (0,0)):=by simpa using Joins.block_setCell (i:=2) h2 v2
 simpa using Joins.block_setCell (i:=3) h3 v3
section
variable {w V:World} {SB cn cc t LB:Nat} {ca:Option Addr} {ta:Option Addr} {n tc:Nat} {ga:Option Addr} {m gc:Nat} {ss:List ByteArray} {gs:List (Int×Int)} {z:Wr} {c0 c1:Array Value}
theorem CkF.out2 {b:Bool} (h:CkF w V SB ca cn cc t LB ta n tc ga m gc ss gs z (if b=true then #[.slice ta n tc,.slice ga m gc] else #[.slice none 0 0,.slice none 0 0]) c1):CkF w ((V.setCell ⟨w.heap.size,0,none⟩ (.slice ta n tc)).setCell ⟨w.heap.size,1,none⟩ (.slice ga m gc)) SB ca cn cc t LB ta n tc ga m gc ss gs z #[.slice ta n tc,.slice ga m gc] c1:=by
 have ho:=h.ord
 have hC:Chg V ((V.setCell ⟨w.heap.size,0,none⟩ (.slice ta n tc)).setCell ⟨w.heap.size,1,none⟩ (.slice ga m gc)) w.heap.size (w.heap.size+3):=((Chg.refl _ _ _).setCell ⟨Nat.le_refl _,by omega⟩ _).setCell ⟨Nat.le_refl _,by omega⟩ _
 obtain ⟨a0,a1,hq⟩:∃a0 a1,V.heap[w.heap.size]? =some (.cells #[a0,a1] 27 (0,0)):=by
  have:=h.r0
  split at this
  ·exact ⟨_,_,this⟩
  ·exact ⟨_,_,this⟩
 have q1:(V.setCell ⟨w.heap.size,0,none⟩ (.slice ta n tc)).heap[w.heap.size]? =some (.cells #[.slice ta n tc,a1] 27 (0,0)):=by simpa using Joins.block_setCell (i:=0) hq (.slice ta n tc)
 have q2:((V.setCell ⟨w.heap.size,0,none⟩ (.slice ta n tc)).setCell ⟨w.heap.size,1,none⟩ (.slice ga m gc)).heap[w.heap.size]? =some (.cells #[.slice ta n tc,.slice ga m gc] 27 (0,0)):=by simpa using Joins.block_setCell (i:=1) q1 (.slice ga m gc)
 have hl:=h.src.bel.size
 exact h.turn ⟨(two_far (by omega) _ _).trans h.src.box,h.src.bel.trans (hC.below (Nat.le_refl _) hl),h.src.sb⟩ hC q2 ((two_far (by omega) _ _).trans h.r1)
theorem CkF.out4 {b:Bool} (h:CkF w V SB ca cn cc t LB ta n tc ga m gc ss gs z c0 (if b=true then #[.int .i64 z.k,.int .i64 z.f,.slice z.ia z.rs.length z.ic,.slice z.oa z.os.length z.oc] else #[.int .i64 0,.int .i64 0,.slice none 0 0,.slice none 0 0])):CkF w ((((V.setCell ⟨w.heap.size+1,0,none⟩ (.int .i64 z.k)).setCell ⟨w.heap.size+1,1,none⟩ (.int .i64 z.f)).setCell ⟨w.heap.size+1,2,none⟩ (.slice z.ia z.rs.length z.ic)).setCell ⟨w.heap.size+1,3,none⟩ (.slice z.oa z.os.length z.oc)) SB ca cn cc t LB ta n tc ga m gc ss gs z c0 #[.int .i64 z.k,.int .i64 z.f,.slice z.ia z.rs.length z.ic,.slice z.oa z.os.length z.oc]:=by
 have ho:=h.ord
 have hC:Chg V ((((V.setCell ⟨w.heap.size+1,0,none⟩ (.int .i64 z.k)).setCell ⟨w.heap.size+1,1,none⟩ (.int .i64 z.f)).setCell ⟨w.heap.size+1,2,none⟩ (.slice z.ia z.rs.length z.ic)).setCell ⟨w.heap.size+1,3,none⟩ (.slice z.oa z.os.length z.oc)) w.heap.size (w.heap.size+3):=
  ((((Chg.refl _ _ _).setCell ⟨by omega,by omega⟩ _).setCell ⟨by omega,by omega⟩ _).setCell ⟨by omega,by omega⟩ _).setCell ⟨by omega,by omega⟩ _
 obtain ⟨a0,a1,a2,a3,hq⟩:∃a0 a1 a2 a3,V.heap[w.heap.size+1]? =some (.cells #[a0,a1,a2,a3] 32 (0,0)):=by
  have:=h.r1
  split at this
  ·exact ⟨_,_,_,_,this⟩
  ·exact ⟨_,_,_,_,this⟩
 have hl:=h.src.bel.size
 exact h.turn ⟨(four_farC (by omega) _ _ _ _).trans h.src.box,h.src.bel.trans (hC.below (Nat.le_refl _) hl),h.src.sb⟩ hC ((four_farC (by omega) _ _ _ _).trans h.r0) (four_boxC hq _ _ _ _)
end
def OutCk (w:World) (ca:Option Addr) (cn cc:Nat) (V:World) (e:Ending):Prop:=∃(t LB:Nat) (ta:Option Addr) (n tc:Nat) (ga:Option Addr) (m gc:Nat) (ss:List ByteArray) (gs:List (Int×Int)) (z:Wr) (id:Int),
 e= .returned (.tuple #[.agg #[.slice ta n tc,.slice ga m gc],.slice z.va z.cs.length z.vc,.agg #[.int .i64 z.k,.int .i64 z.f,.slice z.ia z.rs.length z.ic,.slice z.oa z.os.length z.oc],.int .i64 id])∧t≤1000∧CkF w V (w.heap.size+2) ca cn cc t LB ta n tc ga m gc ss gs z #[.slice ta n tc,.slice ga m gc] #[.int .i64 z.k,.int .i64 z.f,.slice z.ia z.rs.length z.ic,.slice z.oa z.os.length z.oc]
structure R15 (w:World) (ca:Option Addr) (cn cc t0 LB:Nat) (ta:Option Addr) (n tc:Nat) (ga:Option Addr) (m gc:Nat) (ss:List ByteArray) (gs:List (Int×Int)) (z:Wr) (V:World) (b0 b1 b2 b3 b4 b5 b6 b7 b8 b9 b10 b11 b12 b13 b14:Bool) (x0 x1 x2 x3 x4 x5 x6 x7 x8 x9 x10 x11 x12 x13 x14:Value):Prop where
 g0:b0=true→x0= .agg #[.slice ta n tc,.slice ga m gc]
 g1:b1=true→x1= .slice z.va z.cs.length z.vc
 g2:b2=true→x2= .agg #[.int .i64 z.k,.int .i64 z.f,.slice z.ia z.rs.length z.ic,.slice z.oa z.os.length z.oc]
 g3:b3=true→x3= .pointer (some ⟨w.heap.size+2,0,none⟩)
 g4:b4=true→x4= .pointer (some ⟨w.heap.size+2,0,none⟩)
 g7:b7=true→x7= .pointer (some ⟨w.heap.size+2,0,none⟩)
 g12:b12=true→x12= .slice z.va z.cs.length z.vc
 o5_4:b5=true→b4=true
 o6_5:b6=true→b5=true
 o8_7:b8=true→b7=true
 o8_5:b8=true→b5=true
 o9_6:b9=true→b6=true
 o9_8:b9=true→b8=true
 o10_3:b10=true→b3=true
 o10_9:b10=true→b9=true
 o11_0:b11=true→b0=true
 o12_1:b12=true→b1=true
 o13_2:b13=true→b2=true
 o14_10:b14=true→b10=true
 m0:∃t1,t1≤t0+b5.toNat+b8.toNat+b10.toNat∧CkF w V (w.heap.size+2) ca cn cc t1 LB ta n tc ga m gc ss gs z (if b11=true then #[.slice ta n tc,.slice ga m gc] else #[.slice none 0 0,.slice none 0 0]) (if b13=true then #[.int .i64 z.k,.int .i64 z.f,.slice z.ia z.rs.length z.ic,.slice z.oa z.os.length z.oc] else #[.int .i64 0,.int .i64 0,.slice none 0 0,.slice none 0 0])
 e5:b5=true→∃y,x5= .int .i64 y∧0≤y∧y<9
 e6:b6=true→∃y,x6= .int .i64 y
 e8:b8=true→∃y,x8= .int .i64 y∧0≤y∧y<9
 e9:b9=true→b10=false→∃A y1 y2,x9= .slice (some ⟨A,0,none⟩) 6 6∧w.heap.size+2<A∧V.heap[A]? =some (.cells #[.int .i64 y1,.int .i64 9,.int .i64 y2,.int .i64 999,.int .i64 1000,.int .i64 (-1)] 2 (0,0))
 e10:b10=true→∃y,x10= .int .i64 y
 e14:b14=true→∃y,x14= .int .i64 y
set_option maxRecDepth 20000 in
set_option maxHeartbeats 8000000 in
theorem drawCheckTx_any (ca:Option Addr) (cn cc:Nat) (l0:List Int) (w:World) (hcn:cn≤1048577) (hB:BAt w ca cn l0):
 Calls Tryz.prog 5 #[.slice ca cn cc] w fun e w'=>OutCk w ca cn cc w' e:=by
 have HBA:Hid (BAt w ca cn l0):=hB
 have hs:=l1Source_any ca cn cc ((w.alloc (.cells #[.slice none 0 0,.slice none 0 0] 27)).alloc (.cells #[.int .i64 0,.int .i64 0,.slice none 0 0,.slice none 0 0] 32))
 clear hB
 go_enter Tryz.func5,Tryz.ntmps5
 go_upto_region 3 with (first
  |(go_at_call 16;(with_reducible refine hs.mono ?_);clear hs;rintro e v1 ⟨rfl,hS⟩;rw[show ((w.alloc (.cells #[.slice none 0 0,.slice none 0 0] 27)).alloc (.cells #[.int .i64 0,.int .i64 0,.slice none 0 0,.slice none 0 0] 32)).heap.size=w.heap.size+2 by simp] at hS ⊢;have HS1:Hid (Src w v1 (w.heap.size+2) ca cn cc 0):=⟨hS.box,(below_box2 _ _).trans (hS.bel.mono (by simp;omega)),by omega⟩;have HR0:Hid (v1.heap[w.heap.size]? =some (.cells #[.slice none 0 0,.slice none 0 0] 27 (0,0))):=(hS.bel.block w.heap.size (by simp;omega)).trans block_at2;have HR1:Hid (v1.heap[w.heap.size+1]? =some (.cells #[.int .i64 0,.int .i64 0,.slice none 0 0,.slice none 0 0] 32 (0,0))):=(hS.bel.block (w.heap.size+1) (by simp)).trans (heap_at _ _ _ (by simp));clear hS;have h1:=l5World_any (w.heap.size+2) cn cc 0 ca l0 w v1 (by omega) hcn HBA.out HS1.out)
  |(go_at_call 17;(with_reducible refine h1.mono ?_);clear h1;rintro e v2 ⟨t2,ta,n,tc,ga,m,gc,ss,gs,z,rfl,ht2,hnm,HD⟩))
 have HR2:=HD.out.chg.keep1 HR0.out (by omega)
 have HR3:=HD.out.chg.keep1 HR1.out (by omega)
 obtain ⟨HC,HO⟩:=CkF.start HD.out (by have:=HS1.out.lt;omega) rfl hnm HR2 HR3
 obtain ⟨LB,hLB⟩:∃x,x=v2.heap.size:=⟨_,rfl⟩
 rw[←hLB] at HC HO ⊢
 have HCH:=(show Hid _ from HC)
 have HOH:=(show Hid _ from HO)
 clear HC HO HR2 HR3 hLB HD HS1 HR0 HR1
 have ht2':t2≤240:=by omega
 have hx:=l1Next_any (w.heap.size+2) cn cc t2 ca l0 14 w _ (by omega) (by omega) hcn HBA.out HCH.out.src
 go_upto_block 0 with (first
  |(go_at_call 18;(with_reducible refine hx.mono ?_);clear hx;rintro e v3 ⟨r,rfl,⟨hr0,hr1⟩,hS,hc⟩;have HC3:Hid (CkF w v3 (w.heap.size+2) ca cn cc (t2+1) LB ta n tc ga m gc ss gs z #[.slice none 0 0,.slice none 0 0] #[.int .i64 0,.int .i64 0,.slice none 0 0,.slice none 0 0]):=HCH.out.draw hS hc;have HO3:Hid (OwnC w v3 LB z):=OwnC.chg HOH.out (wide3 rfl hc);clear hS hc HCH HOH))
 go_cut [6,7,8,9] (fun s l c q wc=>s= .pointer (some ⟨w.heap.size+2,0,none⟩)∧l= .pointer (some ⟨LB,0,none⟩)∧q= .pointer (some ⟨LB+1,0,none⟩)∧∃z:Wr,c= .slice z.va z.cs.length z.vc∧Hid (∃(t1:Nat) (ta:Option Addr) (n tc:Nat) (ga:Option Addr) (m gc:Nat) (ss:List ByteArray) (gs:List (Int×Int)),t1≤900∧CkF w wc (w.heap.size+2) ca cn cc t1 LB ta n tc ga m gc ss gs z #[.slice none 0 0,.slice none 0 0] #[.int .i64 0,.int .i64 0,.slice none 0 0,.slice none 0 0]))
 case first=>
  by_cases h0:r=0
  ·subst h0
   have hy:=l1Ledger_any (w.heap.size+2) cn cc (t2+1) ca l0 w v3 (by omega) hcn HBA.out HC3.out.src
   obtain ⟨y0,y1⟩:=cells2 HC3.out.b7
   go_wp2_with (first
    |(go_at_call 19;(with_reducible refine hy.mono ?_);clear hy;rintro e v4 ⟨t4,ta4,n4,tc4,ga4,m4,gc4,ss4,gs4,rfl,ht4,HS4,HG4,HA4,HB4,HF4,hn4,hm4⟩;have HC4:Hid (CkF w ((v4.setCell ⟨LB,0,none⟩ (.slice ta4 n4 tc4)).setCell ⟨LB,1,none⟩ (.slice ga4 m4 gc4)) (w.heap.size+2) ca cn cc t4 LB ta4 n4 tc4 ga4 m4 gc4 ss4 gs4 z #[.slice none 0 0,.slice none 0 0] #[.int .i64 0,.int .i64 0,.slice none 0 0,.slice none 0 0]):=HC3.out.ledN HO3.out HS4.out HG4.out HA4.out HB4.out HF4.out ⟨hn4,hm4⟩;have HC3':Hid (CkF w v4 (w.heap.size+2) ca cn cc t4 LB ta n tc ga m gc ss gs z #[.slice none 0 0,.slice none 0 0] #[.int .i64 0,.int .i64 0,.slice none 0 0,.slice none 0 0]):=HC3.out.draw HS4.out HG4.out;obtain ⟨z0,z1⟩:=cells2 HC3'.out.b7;have z2:=Joins.unfrozen_of_block HC3'.out.b7 0;have z3:=Joins.unfrozen_of_block HC3'.out.b7 1))
   go_meet
   exact ⟨rfl,rfl,rfl,z,rfl,t4,ta4,n4,tc4,ga4,m4,gc4,ss4,gs4,by omega,HC4.out⟩
  by_cases h1:r=1
  ·subst h1
   have hy:=l4BentU_any (w.heap.size+2) cn cc (t2+1) ca l0 w v3 (by omega) hcn HBA.out HC3.out.src
   go_wp2_with (first
    |(go_at_call 20;(with_reducible refine hy.mono ?_);clear hy;rintro e v4 ⟨cs4,va4,n4,vc4,t4,rfl,rfl,ht4,HU4⟩;have HC4:Hid (CkF w v4 (w.heap.size+2) ca cn cc t4 LB ta n tc ga m gc ss gs {z with va:=va4,vc:=vc4,cs:=cs4} #[.slice none 0 0,.slice none 0 0] #[.int .i64 0,.int .i64 0,.slice none 0 0,.slice none 0 0]):=HC3.out.coinN HU4.out))
   go_meet
   exact ⟨rfl,rfl,rfl,{z with va:=va4,vc:=vc4,cs:=cs4},rfl,t4,ta,n,tc,ga,m,gc,ss,gs,by omega,HC4.out⟩
  by_cases h2:r=2
  ·subst h2
   have hy:=l3Bent_any (w.heap.size+2) cn cc (t2+1) ca l0 w v3 (by omega) hcn HBA.out HC3.out.src
   go_wp2_with (first
    |(go_at_call 21;(with_reducible refine hy.mono ?_);clear hy;rintro e v4 ⟨k4,f4,ia4,ic4,rs4,oa4,oc4,os4,t4,rfl,ht4,HK4,HN4⟩;have HC4:Hid (CkF w ((((v4.setCell ⟨LB+1,0,none⟩ (.int .i64 k4)).setCell ⟨LB+1,1,none⟩ (.int .i64 f4)).setCell ⟨LB+1,2,none⟩ (.slice ia4 rs4.length ic4)).setCell ⟨LB+1,3,none⟩ (.slice oa4 os4.length oc4)) (w.heap.size+2) ca cn cc t4 LB ta n tc ga m gc ss gs {z with k:=k4,f:=f4,ia:=ia4,ic:=ic4,rs:=rs4,oa:=oa4,oc:=oc4,os:=os4} #[.slice none 0 0,.slice none 0 0] #[.int .i64 0,.int .i64 0,.slice none 0 0,.slice none 0 0]):=HC3.out.txN HO3.out HN4.out HK4.out;have HC3':Hid (CkF w v4 (w.heap.size+2) ca cn cc t4 LB ta n tc ga m gc ss gs z #[.slice none 0 0,.slice none 0 0] #[.int .i64 0,.int .i64 0,.slice none 0 0,.slice none 0 0]):=HC3.out.draw HN4.out.src HN4.out.chg;obtain ⟨z0,z1,z2,z3,z4,z5,z6,z7⟩:=cells4 HC3'.out.b9))
   go_meet
   exact ⟨rfl,rfl,rfl,{z with k:=k4,f:=f4,ia:=ia4,ic:=ic4,rs:=rs4,oa:=oa4,oc:=oc4,os:=os4},rfl,t4,ta,n,tc,ga,m,gc,ss,gs,by omega,HC4.out⟩
  ·have hb0:(r==0)=false:=by simp[h0]
   have hb1:(r==1)=false:=by simp[h1]
   have hb2:(r==2)=false:=by simp[h2]
   go_wp2
   go_meet
   exact ⟨rfl,rfl,rfl,z,rfl,t2+1,ta,n,tc,ga,m,gc,ss,gs,by omega,HC3.out⟩
 case rest=>
  clear HC3 HO3 hr0 hr1 hnm ht2 ht2'
  obtain ⟨rfl,rfl,rfl,z,rfl,HX⟩:=hcut
  obtain ⟨t0,ta,n,tc,ga,m,gc,ss,gs,ht0b,hD⟩:=HX.out
  have HDF:Hid (CkF w wc (w.heap.size+2) ca cn cc t0 LB ta n tc ga m gc ss gs z #[.slice none 0 0,.slice none 0 0] #[.int .i64 0,.int .i64 0,.slice none 0 0,.slice none 0 0]):=hD
  clear HX hD
  go_wp2
  refine wp_region_any (by kernel_rfl) ?_
  change wpAny _ _ _ _ _ _ _ (World.drew _)
  refine wpAny_inv (fun L a V=>∃(b0 b1 b2 b3 b4 b5 b6 b7 b8 b9 b10 b11 b12 b13 b14:Bool) (x0 x1 x2 x3 x4 x5 x6 x7 x8 x9 x10 x11 x12 x13 x14:Value),L=#[b0,b1,b2,b3,b4,b5,b6,b7,b8,b9,b10,b11,b12,b13,b14]∧Fr 43 [some 32,some 33,some 34,some 35,some 36,some 37,some 38,some 39,some 40,some 41,some 42,none,some 3,none,some 5,some 2,some 4,some 6,some 7,some 8,some 9] [b0,b1,b2,b3,b4,b5,b6,b7,b8,b9,b10,b11,b12,b13,b14,true,true,true,true,true,true] [x0,x1,x2,x3,x4,x5,x6,x7,x8,x9,x10,x11,x12,x13,x14,.pointer (some ⟨w.heap.size,0,none⟩),.pointer (some ⟨w.heap.size+1,0,none⟩),.pointer (some ⟨w.heap.size+2,0,none⟩),.pointer (some ⟨LB,0,none⟩),.slice z.va z.cs.length z.vc,.pointer (some ⟨LB+1,0,none⟩)] a∧R15 w ca cn cc t0 LB ta n tc ga m gc ss gs z V b0 b1 b2 b3 b4 b5 b6 b7 b8 b9 b10 b11 b12 b13 b14 x0 x1 x2 x3 x4 x5 x6 x7 x8 x9 x10 x11 x12 x13 x14) ?step ?done _ _ _ _ (by simp) ?start
  case start=>
   refine ⟨false,false,false,false,false,false,false,false,false,false,false,false,false,false,false,undef,undef,undef,undef,undef,undef,undef,undef,undef,undef,undef,undef,undef,undef,undef,rfl,⟨rfl,rfl,rfl,rfl,fun i d h1 h2=> ?_⟩,?_⟩
   ·have hlt:i<21:=(List.getElem?_eq_some_iff.1 h1).1
    obtain rfl|rfl|rfl|rfl|rfl|rfl|rfl|rfl|rfl|rfl|rfl|rfl|rfl|rfl|rfl|rfl|rfl|rfl|rfl|rfl|rfl:i=0∨i=1∨i=2∨i=3∨i=4∨i=5∨i=6∨i=7∨i=8∨i=9∨i=10∨i=11∨i=12∨i=13∨i=14∨i=15∨i=16∨i=17∨i=18∨i=19∨i=20:=by omega
    all_goals first|exact absurd h2 (by decide)|(have:=Option.some.inj (Option.some.inj h1);subst this;rfl)
   ·exact {m0:=⟨t0,Nat.le_refl _,HDF.out.step (Below.refl _ _).drew⟩,e5:=nofun,e6:=nofun,e8:=nofun,e9:=nofun,e10:=nofun,e14:=nofun,g0:=nofun,g1:=nofun,g2:=nofun,g3:=nofun,g4:=nofun,g7:=nofun,g12:=nofun,o5_4:=nofun,o6_5:=nofun,o8_7:=nofun,o8_5:=nofun,o9_6:=nofun,o9_8:=nofun,o10_3:=nofun,o10_9:=nofun,o11_0:=nofun,o12_1:=nofun,o13_2:=nofun,o14_10:=nofun}
  case done=>
   rintro L a V ⟨b0,b1,b2,b3,b4,b5,b6,b7,b8,b9,b10,b11,b12,b13,b14,x0,x1,x2,x3,x4,x5,x6,x7,x8,x9,x10,x11,x12,x13,x14,rfl,FR,H⟩ hr
   have hall:=ready_all (by kernel_rfl) hr
   obtain ⟨tm,df⟩:=a
   obtain rfl:df=[]:=FR.hd
   obtain ⟨F,hF⟩:=arr_of FR.hs
   have hF2:tm=#[F 0,F 1,F 2,F 3,F 4,F 5,F 6,F 7,F 8,F 9,F 10,F 11,F 12,F 13,F 14,F 15,F 16,F 17,F 18,F 19,F 20,F 21,F 22,F 23,F 24,F 25,F 26,F 27,F 28,F 29,F 30,F 31,F 32,F 33,F 34,F 35,F 36,F 37,F 38,F 39,F 40,F 41,F 42]:=hF
   subst hF2
   have kk2:F 2= .pointer (some ⟨w.heap.size,0,none⟩):=Option.some.inj (FR.get 15 2 rfl rfl)
   have kk4:F 4= .pointer (some ⟨w.heap.size+1,0,none⟩):=Option.some.inj (FR.get 16 4 rfl rfl)
   have kk6:F 6= .pointer (some ⟨w.heap.size+2,0,none⟩):=Option.some.inj (FR.get 17 6 rfl rfl)
   have kk7:F 7= .pointer (some ⟨LB,0,none⟩):=Option.some.inj (FR.get 18 7 rfl rfl)
   have kk8:F 8= .slice z.va z.cs.length z.vc:=Option.some.inj (FR.get 19 8 rfl rfl)
   have kk9:F 9= .pointer (some ⟨LB+1,0,none⟩):=Option.some.inj (FR.get 20 9 rfl rfl)
   obtain rfl:b5=true:=hall 5 (by decide)
   obtain rfl:b8=true:=hall 8 (by decide)
   obtain rfl:b10=true:=hall 10 (by decide)
   obtain rfl:b11=true:=hall 11 (by decide)
   obtain rfl:b12=true:=hall 12 (by decide)
   obtain rfl:b13=true:=hall 13 (by decide)
   obtain rfl:b14=true:=hall 14 (by decide)
   obtain ⟨t1,ht1,hD⟩:=H.m0
   obtain rfl:=H.g12 rfl
   obtain ⟨id,rfl⟩:=H.e14 rfl
   have kr12:F 3= .slice z.va z.cs.length z.vc:=Option.some.inj (FR.get 12 3 rfl rfl)
   have kr14:F 5= .int .i64 id:=Option.some.inj (FR.get 14 5 rfl rfl)
   rw[kr12,kr14]
   rw[kk2,kk4,kk6,kk7,kk8,kk9]
   have HDE:Hid (CkF w V (w.heap.size+2) ca cn cc t1 LB ta n tc ga m gc ss gs z #[.slice ta n tc,.slice ga m gc] #[.int .i64 z.k,.int .i64 z.f,.slice z.ia z.rs.length z.ic,.slice z.oa z.os.length z.oc]):=hD
   clear hD H hr hall FR kk2 kk4 kk6 kk7 kk8 kk9 kr12 kr14 hF
   obtain ⟨r0,r1⟩:=cells2 HDE.out.r0
   obtain ⟨q0,q1,q2,q3,_⟩:=cells4 HDE.out.r1
   go_wp2
   refine bodyPost_ret (v:= .tuple #[.agg #[.slice ta n tc,.slice ga m gc],.slice z.va z.cs.length z.vc,.agg #[.int .i64 z.k,.int .i64 z.f,.slice z.ia z.rs.length z.ic,.slice z.oa z.os.length z.oc],.int .i64 id]) (by simp[results,Tryz.results5,go_sem,r0,r1,q0,q1,q2,q3]) rfl ?_
   exact ⟨_,_,ta,n,tc,ga,m,gc,ss,gs,z,id,rfl,by have:t1≤t0+3:=ht1;omega,HDE.out⟩
  case step=>
   rintro L a V i ⟨b0,b1,b2,b3,b4,b5,b6,b7,b8,b9,b10,b11,b12,b13,b14,x0,x1,x2,x3,x4,x5,x6,x7,x8,x9,x10,x11,x12,x13,x14,rfl,FR,H⟩ hi
   have hlt:i<15:=ready_lt hi
   obtain rfl|rfl|rfl|rfl|rfl|rfl|rfl|rfl|rfl|rfl|rfl|rfl|rfl|rfl|rfl:i=0∨i=1∨i=2∨i=3∨i=4∨i=5∨i=6∨i=7∨i=8∨i=9∨i=10∨i=11∨i=12∨i=13∨i=14:=by omega
   ·obtain rfl:b0=false:=ready_new hi
    obtain ⟨t1,ht1,hD⟩:=H.m0
    obtain ⟨c0,c1⟩:=cells2 hD.b7
    have k7:a.tmps[7]? =some (.pointer (some ⟨LB,0,none⟩)):=FR.get 18 7 rfl rfl
    refine wpOp_run (o:=_) rfl (fun K hK=> ?_)
    go_simp
    refine hK _ _ ?_
    exact ⟨_,_,_,_,_,_,_,_,_,_,_,_,_,_,_,_,_,_,_,_,_,_,_,_,_,_,_,_,_,_,rfl,FR.put 0 32 (by decide),{H with g0:=fun _=>rfl,o11_0:=fun _=>rfl}⟩
   ·obtain rfl:b1=false:=ready_new hi
    have k8:a.tmps[8]? =some (.slice z.va z.cs.length z.vc):=FR.get 19 8 rfl rfl
    refine wpOp_run (o:=_) rfl (fun K hK=> ?_)
    go_simp
    refine hK _ _ ?_
    exact ⟨_,_,_,_,_,_,_,_,_,_,_,_,_,_,_,_,_,_,_,_,_,_,_,_,_,_,_,_,_,_,rfl,FR.put 1 33 (by decide),{H with g1:=fun _=>rfl,o12_1:=fun _=>rfl}⟩
   ·obtain rfl:b2=false:=ready_new hi
    obtain ⟨t1,ht1,hD⟩:=H.m0
    obtain ⟨c0,c1,c2,c3,_⟩:=cells4 hD.b9
    have k9:a.tmps[9]? =some (.pointer (some ⟨LB+1,0,none⟩)):=FR.get 20 9 rfl rfl
    refine wpOp_run (o:=_) rfl (fun K hK=> ?_)
    go_simp
    refine hK _ _ ?_
    exact ⟨_,_,_,_,_,_,_,_,_,_,_,_,_,_,_,_,_,_,_,_,_,_,_,_,_,_,_,_,_,_,rfl,FR.put 2 34 (by decide),{H with g2:=fun _=>rfl,o13_2:=fun _=>rfl}⟩
   ·obtain rfl:b3=false:=ready_new hi
    have k6:a.tmps[6]? =some (.pointer (some ⟨w.heap.size+2,0,none⟩)):=FR.get 17 6 rfl rfl
    refine wpOp_run (o:=_) rfl (fun K hK=> ?_)
    go_simp
    refine hK _ _ ?_
    exact ⟨_,_,_,_,_,_,_,_,_,_,_,_,_,_,_,_,_,_,_,_,_,_,_,_,_,_,_,_,_,_,rfl,FR.put 3 35 (by decide),{H with g3:=fun _=>rfl,o10_3:=fun _=>rfl}⟩
   ·obtain rfl:b4=false:=ready_new hi
    have k6:a.tmps[6]? =some (.pointer (some ⟨w.heap.size+2,0,none⟩)):=FR.get 17 6 rfl rfl
    refine wpOp_run (o:=_) rfl (fun K hK=> ?_)
    go_simp
    refine hK _ _ ?_
    exact ⟨_,_,_,_,_,_,_,_,_,_,_,_,_,_,_,_,_,_,_,_,_,_,_,_,_,_,_,_,_,_,rfl,FR.put 4 36 (by decide),{H with g4:=fun _=>rfl,o5_4:=fun _=>rfl}⟩
   ·obtain rfl:b5=false:=ready_new hi
    obtain rfl:b4=true:=ready_dep (d:=4) hi (by kernel_rfl)
    obtain rfl:=H.g4 rfl
    obtain rfl:b6=false:=Bool.eq_false_iff.2 (fun h=>by have:=H.o6_5 h;simp at this)
    obtain rfl:b8=false:=Bool.eq_false_iff.2 (fun h=>by have:=H.o8_5 h;simp at this)
    obtain rfl:b9=false:=Bool.eq_false_iff.2 (fun h=>by have:=H.o9_8 h;simp at this)
    obtain rfl:b10=false:=Bool.eq_false_iff.2 (fun h=>by have:=H.o10_9 h;simp at this)
    obtain rfl:b14=false:=Bool.eq_false_iff.2 (fun h=>by have:=H.o14_10 h;simp at this)
    obtain ⟨t1,ht1,hD⟩:=H.m0
    have ht2:t1≤t0+0:=ht1
    have hN:=l1Next_any (w.heap.size+2) cn cc t1 ca l0 9 w V (by omega) (by omega) hcn HBA.out hD.src
    have l4:a.tmps[36]? =some (.pointer (some ⟨w.heap.size+2,0,none⟩)):=FR.get 4 36 rfl rfl
    refine wpOp_run (o:=_) rfl (fun K hK=> ?_)
    go_simp
    go_at_call 18
    refine hN.mono ?_
    rintro e v5 ⟨y,rfl,⟨z0,z1⟩,hS,hc⟩
    have z2:y<9:=z1 (by omega)
    have hD5:=hD.draw hS hc
    go_simp
    refine hK _ _ ?_
    exact ⟨_,_,_,_,_,_,_,_,_,_,_,_,_,_,_,_,_,_,_,_,_,_,_,_,_,_,_,_,_,_,rfl,FR.put 5 37 (by decide),{H with m0:=⟨t1+1,Nat.succ_le_succ ht2,hD5⟩,e5:=fun _=>⟨y,rfl,z0,z2⟩,e9:=nofun,o6_5:=fun _=>rfl,o8_5:=fun _=>rfl,o5_4:=fun _=>rfl}⟩
   ·obtain rfl:b6=false:=ready_new hi
    obtain rfl:b5=true:=ready_dep (d:=5) hi (by kernel_rfl)
    obtain rfl:b4=true:=H.o5_4 rfl
    obtain ⟨y,rfl,z0,z1⟩:=H.e5 rfl
    have hw:=IntWalk.i64_in (9+y) (by omega)
    have l5:a.tmps[37]? =some (.int .i64 y):=FR.get 5 37 rfl rfl
    refine wpOp_run (o:=_) rfl (fun K hK=> ?_)
    go_simp
    refine hK _ _ ?_
    exact ⟨_,_,_,_,_,_,_,_,_,_,_,_,_,_,_,_,_,_,_,_,_,_,_,_,_,_,_,_,_,_,rfl,FR.put 6 38 (by decide),{H with e6:=fun _=>⟨_,rfl⟩,o9_6:=fun _=>rfl,o6_5:=fun _=>rfl}⟩
   ·obtain rfl:b7=false:=ready_new hi
    have k6:a.tmps[6]? =some (.pointer (some ⟨w.heap.size+2,0,none⟩)):=FR.get 17 6 rfl rfl
    refine wpOp_run (o:=_) rfl (fun K hK=> ?_)
    go_simp
    refine hK _ _ ?_
    exact ⟨_,_,_,_,_,_,_,_,_,_,_,_,_,_,_,_,_,_,_,_,_,_,_,_,_,_,_,_,_,_,rfl,FR.put 7 39 (by decide),{H with g7:=fun _=>rfl,o8_7:=fun _=>rfl}⟩
   ·obtain rfl:b8=false:=ready_new hi
    obtain rfl:b7=true:=ready_dep (d:=7) hi (by kernel_rfl)
    obtain rfl:=H.g7 rfl
    obtain rfl:b5=true:=ready_dep (d:=5) hi (by kernel_rfl)
    obtain rfl:b9=false:=Bool.eq_false_iff.2 (fun h=>by have:=H.o9_8 h;simp at this)
    obtain rfl:b10=false:=Bool.eq_false_iff.2 (fun h=>by have:=H.o10_9 h;simp at this)
    obtain rfl:b14=false:=Bool.eq_false_iff.2 (fun h=>by have:=H.o14_10 h;simp at this)
    obtain ⟨t1,ht1,hD⟩:=H.m0
    have ht2:t1≤t0+1:=ht1
    have hN:=l1Next_any (w.heap.size+2) cn cc t1 ca l0 9 w V (by omega) (by omega) hcn HBA.out hD.src
    have l7:a.tmps[39]? =some (.pointer (some ⟨w.heap.size+2,0,none⟩)):=FR.get 7 39 rfl rfl
    refine wpOp_run (o:=_) rfl (fun K hK=> ?_)
    go_simp
    go_at_call 18
    refine hN.mono ?_
    rintro e v5 ⟨y,rfl,⟨z0,z1⟩,hS,hc⟩
    have z2:y<9:=z1 (by omega)
    have hD5:=hD.draw hS hc
    go_simp
    refine hK _ _ ?_
    exact ⟨_,_,_,_,_,_,_,_,_,_,_,_,_,_,_,_,_,_,_,_,_,_,_,_,_,_,_,_,_,_,rfl,FR.put 8 40 (by decide),{H with m0:=⟨t1+1,Nat.succ_le_succ ht2,hD5⟩,e8:=fun _=>⟨y,rfl,z0,z2⟩,e9:=nofun,o9_8:=fun _=>rfl,o8_7:=fun _=>rfl,o8_5:=fun _=>rfl}⟩
   ·obtain rfl:b9=false:=ready_new hi
    obtain rfl:b6=true:=ready_dep (d:=6) hi (by kernel_rfl)
    obtain rfl:b8=true:=ready_dep (d:=8) hi (by kernel_rfl)
    obtain rfl:b5=true:=H.o6_5 rfl
    obtain rfl:b7=true:=H.o8_7 rfl
    obtain rfl:b4=true:=H.o5_4 rfl
    obtain rfl:b10=false:=Bool.eq_false_iff.2 (fun h=>by have:=H.o10_9 h;simp at this)
    obtain rfl:b14=false:=Bool.eq_false_iff.2 (fun h=>by have:=H.o14_10 h;simp at this)
    obtain ⟨y1,rfl⟩:=H.e6 rfl
    obtain ⟨y2,rfl,_,_⟩:=H.e8 rfl
    obtain ⟨t1,ht1,hD⟩:=H.m0
    have hsl:=hD.src.lt
    have l6:a.tmps[38]? =some (.int .i64 y1):=FR.get 6 38 rfl rfl
    have l8:a.tmps[40]? =some (.int .i64 y2):=FR.get 8 40 rfl rfl
    refine wpOp_run (o:=_) rfl (fun K hK=> ?_)
    go_simp
    refine hK _ _ ?_
    exact ⟨_,_,_,_,_,_,_,_,_,_,_,_,_,_,_,_,_,_,_,_,_,_,_,_,_,_,_,_,_,_,rfl,FR.put 9 41 (by decide),{H with m0:=⟨t1,ht1,hD.step (below_box _)⟩,e9:=fun _ _=>⟨_,y1,y2,rfl,hsl,heap_alloc_new _ _⟩,o10_9:=fun _=>rfl,o9_6:=fun _=>rfl,o9_8:=fun _=>rfl}⟩
   ·obtain rfl:b10=false:=ready_new hi
    obtain rfl:b3=true:=ready_dep (d:=3) hi (by kernel_rfl)
    obtain rfl:b9=true:=ready_dep (d:=9) hi (by kernel_rfl)
    obtain rfl:b6=true:=H.o9_6 rfl
    obtain rfl:b8=true:=H.o9_8 rfl
    obtain rfl:b5=true:=H.o6_5 rfl
    obtain rfl:b7=true:=H.o8_7 rfl
    obtain rfl:b4=true:=H.o5_4 rfl
    obtain rfl:=H.g3 rfl
    obtain rfl:b14=false:=Bool.eq_false_iff.2 (fun h=>by have:=H.o14_10 h;simp at this)
    obtain ⟨A,y1,y2,ea,hA,hv⟩:=H.e9 rfl rfl
    subst ea
    obtain ⟨t1,ht1,hD⟩:=H.m0
    have ht2:t1≤t0+2:=ht1
    have hN:=l1Pick_any (w.heap.size+2) cn cc t1 6 6 ca (some ⟨A,0,none⟩) l0 [y1,9,y2,999,1000,-1] w V (by omega) (by omega) (by omega) hcn HBA.out hD.src (iatF6 hv) (fun b off e=>(by cases e;omega))
    have l3:a.tmps[35]? =some (.pointer (some ⟨w.heap.size+2,0,none⟩)):=FR.get 3 35 rfl rfl
    have l9:a.tmps[41]? =some (.slice (some ⟨A,0,none⟩) 6 6):=FR.get 9 41 rfl rfl
    refine wpOp_run (o:=_) rfl (fun K hK=> ?_)
    go_simp
    go_at_call 22
    refine hN.mono ?_
    rintro e v5 ⟨y,rfl,_,hS,hc⟩
    have hD5:=hD.draw hS hc
    go_simp
    refine hK _ _ ?_
    exact ⟨_,_,_,_,_,_,_,_,_,_,_,_,_,_,_,_,_,_,_,_,_,_,_,_,_,_,_,_,_,_,rfl,FR.put 10 42 (by decide),{H with m0:=⟨t1+1,Nat.succ_le_succ ht2,hD5⟩,e9:=fun _ h=>(by cases h),e10:=fun _=>⟨y,rfl⟩,o14_10:=fun _=>rfl,o10_3:=fun _=>rfl,o10_9:=fun _=>rfl}⟩
   ·obtain rfl:b11=false:=ready_new hi
    obtain rfl:b0=true:=ready_dep (d:=0) hi (by kernel_rfl)
    obtain rfl:=H.g0 rfl
    obtain ⟨t1,ht1,hD⟩:=H.m0
    have hres:=hD.r0
    obtain ⟨r0,r1⟩:=cells2 hres
    have r2:=Joins.unfrozen_of_block hres 0
    have r3:=Joins.unfrozen_of_block hres 1
    have hD5:=hD.out2
    have l0:a.tmps[32]? =some (.agg #[.slice ta n tc,.slice ga m gc]):=FR.get 0 32 rfl rfl
    have k2:a.tmps[2]? =some (.pointer (some ⟨w.heap.size,0,none⟩)):=FR.get 15 2 rfl rfl
    refine wpOp_run (o:=_) rfl (fun K hK=> ?_)
    go_simp
    refine hK _ _ ?_
    exact ⟨_,_,_,_,_,_,_,_,_,_,_,_,_,_,_,_,_,_,_,_,_,_,_,_,_,_,_,_,_,_,rfl,FR.skip 11 rfl,{H with m0:=⟨t1,ht1,hD5⟩,e9:=fun h h2=>(by obtain ⟨A,y1,y2,e,hA,hv⟩:=H.e9 h h2;exact ⟨A,y1,y2,e,hA,(two_far (by omega) _ _).trans hv⟩),o11_0:=fun _=>rfl}⟩
   ·obtain rfl:b12=false:=ready_new hi
    obtain rfl:b1=true:=ready_dep (d:=1) hi (by kernel_rfl)
    obtain rfl:=H.g1 rfl
    have l1:a.tmps[33]? =some (.slice z.va z.cs.length z.vc):=FR.get 1 33 rfl rfl
    refine wpOp_run (o:=_) rfl (fun K hK=> ?_)
    go_simp
    refine hK _ _ ?_
    exact ⟨_,_,_,_,_,_,_,_,_,_,_,_,_,_,_,_,_,_,_,_,_,_,_,_,_,_,_,_,_,_,rfl,FR.put 12 3 (by decide),{H with g12:=fun _=>rfl,o12_1:=fun _=>rfl}⟩
   ·obtain rfl:b13=false:=ready_new hi
    obtain rfl:b2=true:=ready_dep (d:=2) hi (by kernel_rfl)
    obtain rfl:=H.g2 rfl
    obtain ⟨t1,ht1,hD⟩:=H.m0
    have hres:=hD.r1
    obtain ⟨r0,r1,r2,r3,r4,r5,r6,r7⟩:=cells4 hres
    have hD5:=hD.out4
    have l2:a.tmps[34]? =some (.agg #[.int .i64 z.k,.int .i64 z.f,.slice z.ia z.rs.length z.ic,.slice z.oa z.os.length z.oc]):=FR.get 2 34 rfl rfl
    have k4:a.tmps[4]? =some (.pointer (some ⟨w.heap.size+1,0,none⟩)):=FR.get 16 4 rfl rfl
    refine wpOp_run (o:=_) rfl (fun K hK=> ?_)
    go_simp
    refine hK _ _ ?_
    exact ⟨_,_,_,_,_,_,_,_,_,_,_,_,_,_,_,_,_,_,_,_,_,_,_,_,_,_,_,_,_,_,rfl,FR.skip 13 rfl,{H with m0:=⟨t1,ht1,hD5⟩,e9:=fun h h2=>(by obtain ⟨A,y1,y2,e,hA,hv⟩:=H.e9 h h2;exact ⟨A,y1,y2,e,hA,(four_farC (by omega) _ _ _ _).trans hv⟩),o13_2:=fun _=>rfl}⟩
   ·obtain rfl:b14=false:=ready_new hi
    obtain rfl:b10=true:=ready_dep (d:=10) hi (by kernel_rfl)
    obtain rfl:b3=true:=H.o10_3 rfl
    obtain rfl:b9=true:=H.o10_9 rfl
    obtain rfl:b6=true:=H.o9_6 rfl
    obtain rfl:b8=true:=H.o9_8 rfl
    obtain rfl:b5=true:=H.o6_5 rfl
    obtain rfl:b7=true:=H.o8_7 rfl
    obtain rfl:b4=true:=H.o5_4 rfl
    obtain ⟨y,rfl⟩:=H.e10 rfl
    have l10:a.tmps[42]? =some (.int .i64 y):=FR.get 10 42 rfl rfl
    refine wpOp_run (o:=_) rfl (fun K hK=> ?_)
    go_simp
    refine hK _ _ ?_
    exact ⟨_,_,_,_,_,_,_,_,_,_,_,_,_,_,_,_,_,_,_,_,_,_,_,_,_,_,_,_,_,_,rfl,FR.put 14 5 (by decide),{H with e14:=fun _=>⟨y,rfl⟩,o14_10:=fun _=>rfl}⟩
end Go.Proofs.YtagokfoimokniaaGreatDoor
