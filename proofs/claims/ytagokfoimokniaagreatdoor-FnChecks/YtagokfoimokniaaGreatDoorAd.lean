/- The specification's CheckTx keeps its contract. -/
import Derived.Test.YtagokfoimokniaaGreatDoorAc
import Derived.Test.YtagokfoimokniaaGreatDoorQh
import Derived.Test.YtagokfoimokniaaGreatDoorQm
import Derived.Test.YtagokfoimokniaaGreatDoorMet
import Derived.Test.YtagokfoimokniaaGreatDoorRi
import Derived.Test.YtagokfoimokniaaGreatDoorJn4
namespace Go.Proofs.YtagokfoimokniaaGreatDoor
open Go.RowKit Go.Shelf Go.Maps Go.WideMaps
set_option maxHeartbeats 1000000 in
theorem l5RipeQ_any (B o:Nat) (h t:Int) (m:Bool) (w:World) (h6:w.cell? ⟨B,o+6,none⟩=some (.int .i64 h)) (h7:w.cell? ⟨B,o+7,none⟩=some (.bool m)) (hh:0≤h∧h≤999):
 Calls Tryz.prog 69 #[.pointer (some ⟨B,o,none⟩),.int .i64 t] w fun e w'=>e= .returned (.bool (!m||decide (h+2≤t)))∧w'=w:=by
 have hw:IntKind.i64.wrap (h+2)=h+2:=IntWalk.i64_in _ (by omega)
 cases m with
 |false=>
  go_enter Tryz.func69,Tryz.ntmps69
  go_wp2
  go_ret
  exact ⟨by simp,rfl⟩
 |true=>
  go_enter Tryz.func69,Tryz.ntmps69
  go_wp2
  go_ret
  exact ⟨by simp,rfl⟩
set_option maxRecDepth 20000 in
set_option maxHeartbeats 1000000 in
theorem l2MetQ_any (o L P m gc n cap:Nat) (ga a:Option Addr) (gs:List (Int×Int)) (l:List Int) (x y id h:Int) (w:World) (hm:m≤maxLen) (hl:n≤1048576) (hL:L<w.heap.size) (hP:P<w.heap.size) (hG:w.cell? ⟨L,1,none⟩=some (.slice ga m gc)) (hg:GAt w ga m gs) (hI:IAt w a n l)
 (p0:w.cell? ⟨P,o,none⟩=some (.slice a n cap)) (p1:w.cell? ⟨P,o+1,none⟩=some (.int .i64 x)) (p2:w.cell? ⟨P,o+2,none⟩=some (.int .i64 y)):
 Calls Tryz.prog 70 #[.pointer (some ⟨L,0,none⟩),.pointer (some ⟨P,o,none⟩),.int .i64 id,.int .i64 h] w fun e w'=>e= .returned (.int .i64 (if h<y then 9 else if (cntK l gs id:Int)<x then 6 else 0))∧Below w.heap.size w w':=by
 have HG:Hid (GAt w ga m gs):=hg
 have HI:Hid (IAt w a n l):=hI
 have HN:Hid (l.length=n):=hI.1
 clear hg hI
 by_cases hy:h<y
 ·rw[if_pos hy]
  go_enter Tryz.func70,Tryz.ntmps70
  go_wp2
  go_ret
  exact ⟨rfl,Below.refl _ _⟩
 ·rw[if_neg hy]
  obtain ⟨r,hr⟩:∃r:Int,r=if (cntK l gs id:Int)<x then 6 else 0:=⟨_,rfl⟩
  rw[←hr]
  have HR:Hid (r=if (cntK l gs id:Int)<x then 6 else 0):=hr
  clear hr
  go_enter Tryz.func70,Tryz.ntmps70
  go_wp2
  go_loopw [9,10] (fun v i wr=>∃j:Nat,j≤n∧i= .int .i64 j∧∃c:Nat,v= .int .i64 c∧c≤j∧Hid (c=cntK (l.take j) gs id)∧Below w.heap.size w wr) (fun _ i _=>n-(intOf i).toNat)
  case atStart=>exact ⟨0,Nat.zero_le _,rfl,0,rfl,Nat.le_refl _,by show _=_;simp[cntK],Below.refl _ _⟩
  case round=>
   obtain ⟨j,hj,rfl,c,rfl,hcj,HC,hbel⟩:=hrel
   have y0:=(hbel.cell (p:=⟨P,o,none⟩) hP).trans p0
   have y1:=(hbel.cell (p:=⟨P,o+1,none⟩) hP).trans p1
   by_cases hlt:j<n
   ·rcases HI.out.2 with h0|⟨b,off,e0,l0,d0⟩
    ·omega
    subst e0
    obtain ⟨s,hs⟩:∃s,s=l.getD j 0:=⟨_,rfl⟩
    have x0:=(hbel.cell (p:=⟨b,off+j,none⟩) l0).trans (d0 j hlt)
    rw[←hs] at x0
    have hnx:=cntK_next HN.out hlt hs gs id
    have hhs:=l1Has_any L m gc ga gs s id wr hm ((hbel.cell (p:=⟨L,1,none⟩) hL).trans hG) (HG.out.below hbel (Nat.le_refl _))
    obtain ⟨mb,hmb⟩:∃b,b=memB gs (s,id):=⟨_,rfl⟩
    rw[←hmb] at hhs hnx
    have HNX:Hid (cntK (l.take (j+1)) gs id=cntK (l.take j) gs id+(if mb=true then 1 else 0)):=hnx
    clear hs d0 hmb hnx
    have hki:(j:Int)<(n:Int):=by omega
    cases mb
    ·go_wp2_with (go_at_call 71;refine hhs.mono ?_;rintro e w2 ⟨rfl,hb2⟩)
     go_roundw
     case rel=>exact ⟨j+1,by omega,by go_num,c,rfl,by omega,by show _=_;rw[HNX.out,←HC.out];rfl,hbel.trans (hb2.mono hbel.size)⟩
     case measure=>simp[intOf];omega
    ·go_wp2_with (go_at_call 71;refine hhs.mono ?_;rintro e w2 ⟨rfl,hb2⟩)
     go_roundw
     case rel=>exact ⟨j+1,by omega,by go_num,c+1,by go_num,by omega,by show _=_;rw[HNX.out,←HC.out];rfl,hbel.trans (hb2.mono hbel.size)⟩
     case measure=>simp[intOf];omega
   ·have e1:c=cntK l gs id:=by have:=HC.out;rwa [take_all HN.out hlt] at this
    have hr2:r=if (c:Int)<x then 6 else 0:=by rw[HR.out,e1]
    clear e1
    by_cases hx:(c:Int)<x
    ·obtain rfl:r=6:=by rw[hr2,if_pos hx]
     clear hr2
     go_wp2
     go_ret
     exact ⟨rfl,hbel⟩
    ·obtain rfl:r=0:=by rw[hr2,if_neg hx]
     clear hr2
     go_wp2
     go_ret
     exact ⟨rfl,hbel⟩
set_option maxRecDepth 20000 in
set_option maxHeartbeats 4000000 in
theorem l5Check_any (L P gn gc nc cc lo hi:Nat) (ga ca:Option Addr) (gs:List (Int×Int)) (cs:List Co) (kv:Nat→Value) (n c m d:Nat) (ia oa:Option Addr) (k f:Int) (rs:List (Int×Int)) (os:List Ou) (id h:Int) (w:World) (hgm:gn≤maxLen) (hLl:L<w.heap.size) (hL1:w.cell? ⟨L,1,none⟩=some (.slice ga gn gc)) (hgs:GAt w ga gn gs) (hlc:cs.length=nc) (hc0:coinsR cs=0) (hO:COwn w lo hi (.slice ca nc cc) nc (fun j=>cs.getD j C0) kv) (hlo:lo≤w.heap.size) (hn:n≤1048576) (hX:TxAt w ia n oa m rs os) (hP:w.heap[P]? =some (.cells #[.int .i64 k,.int .i64 f,.slice ia n c,.slice oa m d] 32 (0,0))) (h0:txR k f rs os=0):
 Calls Tryz.prog 32 #[.pointer (some ⟨L,0,none⟩),.slice ca nc cc,.pointer (some ⟨P,0,none⟩),.int .i64 id,.int .i64 h] w fun e w'=>e= .returned (.tuple #[.int .i64 (feeR gs cs k f rs os id h).2,.int .i64 (feeR gs cs k f rs os id h).1])∧Below w.heap.size w w':=by
 obtain ⟨hc40,hcg,hcr⟩:=coins_rise hc0
 obtain ⟨hrb,hrd,hr4,ho4⟩:=tx_facts h0
 rw[hlc] at hc40
 obtain ⟨p0,p1,p2,p3,_⟩:=cells4 hP
 have hPl:=lt_of_block hP
 obtain ⟨ts,hts⟩:∃x,x=inC cs rs:=⟨_,rfl⟩
 obtain ⟨jb,hjb⟩:∃b,b=rs.all (hasC cs):=⟨_,rfl⟩
 have hSp:Calls Tryz.prog 68 #[.slice ca nc cc,.pointer (some ⟨P,0,none⟩)] w fun e w'=>∃va vc,e= .returned (.tuple #[.slice va ts.length vc,.bool jb])∧Hid (∃kv,COwn w' w.heap.size w'.heap.size (.slice va ts.length vc) ts.length (fun j=>ts.getD j C0) kv)∧Below w.heap.size w w':=
  (l5Spent_any nc cc P n c lo hi ca ia cs kv rs w hlc hc40 hcg hO hlo hn hX.r hPl p2).mono fun e w' ⟨va,vc,kv',h1,h2,h3⟩=>⟨va,vc,by rw[hts,hjb,←in_full hcr hrd];exact h1,⟨kv',by rw[hts];exact h2⟩,h3⟩
 unfold feeR
 rw[←hts,←hjb]
 have HTK:Hid (∀c∈ts,coinR c=0):=fun c hc=>hcg c (by rw[hts] at hc;exact (List.mem_filter.1 hc).1)
 have htl:ts.length≤40:=by rw[hts,←hlc] at*;exact Nat.le_trans (List.length_filter_le _ _) hc40
 have HVO:Hid (ValsOk ts):=fun c hc=>(coin_rule (HTK.out c hc)).2.2
 have hvl:=vals_le HVO.out
 obtain ⟨hm4,hov⟩:=txR_zero hX.o.1 h0.symm
 have hsl:=out_vals hX.o.1 hm4 hov
 clear hts hjb hcg hcr hrb hrd hO hc0
 cases jb
 ·rw[if_pos rfl]
  clear hgs hX hP h0 hov hsl hvl
  go_enter Tryz.func32,Tryz.ntmps32
  go_wp2_with (first
   |(go_at_call 68;(with_reducible refine hSp.mono ?_);clear hSp;rintro e w2 ⟨va,vc,rfl,HO2,hb2⟩;have HB2:Hid (Below w.heap.size w w2):=hb2;clear hb2))
  exact bodyPost_ret (v:= .tuple #[.int .i64 0,.int .i64 4]) (by simp[results,Tryz.results32,go_sem]) rfl ⟨rfl,HB2.out⟩
 ·rw[if_neg (by simp)]
  obtain ⟨r,hr⟩:∃x,x=maysR gs id h ts:=⟨_,rfl⟩
  obtain ⟨mb,hmb⟩:∃x,x=memB gs (f,id):=⟨_,rfl⟩
  obtain ⟨sv,hsv⟩:∃x,x=valsR ts:=⟨_,rfl⟩
  obtain ⟨so,hso⟩:∃x,x=(os.map Ou.v).sum:=⟨_,rfl⟩
  have HR:Hid (r=maysR gs id h ts):=hr
  have HMB:Hid (mb=memB gs (f,id)):=hmb
  have HSV:Hid (sv=valsR ts):=hsv
  have HSO:Hid (so=(os.map Ou.v).sum):=hso
  have HGS:Hid (GAt w ga gn gs):=hgs
  have HX:Hid (TxAt w ia n oa m rs os):=hX
  have HOV:Hid (∀j,j<m→1≤(os.getD j O0).v∧(os.getD j O0).v≤1000000):=hov
  have HP1:Hid (w.heap[P]? =some (.cells #[.int .i64 k,.int .i64 f,.slice ia n c,.slice oa m d] 32 (0,0))):=hP
  have HL1:Hid (w.cell? ⟨L,1,none⟩=some (.slice ga gn gc)):=hL1
  rw[←hso] at hsl
  rw[←hsv] at hvl
  rw[←hr,←hmb,←hsv,←hso]
  have hfw:IntKind.i64.wrap (sv-so)=sv-so:=IntWalk.i64_in _ (by omega)
  obtain ⟨Q,hQ⟩:∃Q:Int×Int,Q=if r≠0 then (r,0) else if k=2∧mb=false then (6,0) else if sv-so<0 then (8,0) else (0,sv-so):=⟨_,rfl⟩
  rw[←hQ]
  obtain ⟨rc,fee⟩:=Q
  have HQ:Hid ((rc,fee)=if r≠0 then (r,0) else if k=2∧mb=false then (6,0) else if sv-so<0 then (8,0) else (0,sv-so)):=hQ
  simp only
  clear hQ hr hmb hsv hso hgs hX hP h0 hov hsl hvl hL1 p0 p1 p2 p3
  go_enter Tryz.func32,Tryz.ntmps32
  go_wp2_with (first
   |(go_at_call 68;(with_reducible refine hSp.mono ?_);clear hSp;rintro e w2 ⟨va,vc,rfl,HO2,hb2⟩;have HB2:Hid (Below w.heap.size w w2):=hb2;clear hb2))
  go_loopw [14] (fun i wr=>∃j:Nat,j≤ts.length∧i= .int .i64 j∧Hid (r=maysR gs id h (ts.drop j))∧Hid (Below w2.heap.size w2 wr)) (fun i _=>ts.length-(intOf i).toNat)
  case atStart=>exact ⟨0,Nat.zero_le _,rfl,HR.out,Below.refl _ _⟩
  case round=>
   obtain ⟨j,hj,rfl,HRJ,HBW⟩:=hrel
   have HBR:Hid (Below w.heap.size w wr):=HB2.out.trans (HBW.out.mono HB2.out.size)
   obtain ⟨kv,hO2⟩:=HO2.out
   have hO:=hO2.below HBW.out
   by_cases hlt:j<ts.length
   ·obtain ⟨g,ug,eg⟩:∃g ug,(Value.slice va ts.length vc)= .slice (some ⟨g,0,none⟩) ts.length ug:=by
     obtain ⟨xs,h1,_⟩:=hO.row
     rcases h1.2 with ⟨e1,e2⟩|⟨g,cp,cur,e1,_⟩
     ·omega
     ·exact ⟨g,cp,e1⟩
    cases eg
    obtain ⟨o,ho⟩:∃o,o=ts.getD j C0:=⟨_,rfl⟩
    have hmem:o∈ts:=by rw[ho];exact getC_mem hlt
    obtain ⟨g1,g2,g3,g4⟩:=coin_more (HTK.out o hmem)
    obtain ⟨u1,u2,_⟩:=coin_rule (HTK.out o hmem)
    have hrow:=(hO.keys j hlt).1
    obtain ⟨kb,kc,hkv⟩:∃kb kc,kv j= .slice (some ⟨kb,0,none⟩) o.l.length kc:=by
     rcases hrow.2 with ⟨_,e1⟩|⟨g,cp,cur,e1,_⟩
     ·rw[←ho] at e1;omega
     ·rw[←ho] at e1;exact ⟨g,cp,e1⟩
    rw[hkv,←ho] at hrow
    obtain ⟨⟨x0,x1,x2,x3,x4,x5,x6,x7⟩,_⟩:=hO.cells hlt (show ts.getD j C0=o from ho.symm) hkv
    have HNX:Hid (ts.drop j=o::ts.drop (j+1)):=next_co hlt ho
    obtain ⟨op,oq,ov,ol,ox,oy,oh,om⟩:=o
    simp only at x0 x1 x2 x3 x4 x5 x6 x7 hrow g1 g2 g3 g4 u1 u2
    have hri:=l5RipeQ_any g (j*8) oh h om wr x6 x7 (by simpa [inB] using u2)
    have hme:=l2MetQ_any (j*8+2+1) L g gn gc ol.length kc ga (some ⟨kb,0,none⟩) gs ol ox oy id h wr hgm (by omega) (Nat.lt_of_lt_of_le hLl HBR.out.size) (World.block_lt_of_cell? _ _ x3) ((HBR.out.cell (p:=⟨L,1,none⟩) hLl).trans HL1.out) (HGS.out.below HBR.out (Nat.le_refl _)) (IAt.owned hrow rfl) x3 x4 x5
    obtain ⟨rb,hrb⟩:∃b,b=(!om||decide (oh+2≤h)):=⟨_,rfl⟩
    obtain ⟨rm,hrm⟩:∃r,r=(if h<oy then (9:Int) else if (cntK ol gs id:Int)<ox then 6 else 0):=⟨_,rfl⟩
    rw[←hrb] at hri
    rw[←hrm] at hme
    have HRM:Hid (mayR gs id h ⟨op,oq,ov,ol,ox,oy,oh,om⟩=if rb=false then 9 else rm):=by show _=_;unfold mayR;rw[hrb,hrm]
    have hki:(j:Int)<(ts.length:Int):=by omega
    clear ho hmem g1 g2 g3 g4 u1 u2 hO hO2 hrow hkv hrm hrb
    cases rb
    ·go_wp2_with (first
      |(go_at_call 69;(with_reducible refine hri.mono ?_);clear hri;rintro e w3 ⟨rfl,hw3⟩;have hw4:=hw3.symm;subst hw4))
     have hrr:r=9:=by rw[HRJ.out,HNX.out];exact mays_no (by have q:=HRM.out;simp at q;exact q) (by decide)
     have hrc:rc=9∧fee=0:=by have q:=HQ.out;rw[if_pos (by rw[hrr];decide),hrr] at q;exact Prod.mk.inj q
     exact bodyPost_ret (v:= .tuple #[.int .i64 0,.int .i64 9]) (by simp[results,Tryz.results32,go_sem]) rfl ⟨by rw[hrc.1,hrc.2],HBR.out⟩
    ·by_cases hz2:rm=0
     ·subst hz2
      go_wp2_with (first
       |(go_at_call 69;(with_reducible refine hri.mono ?_);clear hri;rintro e w3 ⟨rfl,hw3⟩;have hw4:=hw3.symm;subst hw4)
       |(go_at_call 70;(with_reducible refine hme.mono ?_);clear hme;rintro e w4 ⟨rfl,hb4⟩;have HB4:Hid (Below w2.heap.size w2 w4):=HBW.out.trans (hb4.mono HBW.out.size);clear hb4))
      go_roundw
      case rel=>exact ⟨j+1,by omega,by go_num,by show _=_;rw[HRJ.out,HNX.out];exact mays_yes (by have q:=HRM.out;simp at q;exact q),HB4.out⟩
      case measure=>simp[intOf];omega
     ·go_wp2_with (first
       |(go_at_call 69;(with_reducible refine hri.mono ?_);clear hri;rintro e w3 ⟨rfl,hw3⟩;have hw4:=hw3.symm;subst hw4)
       |(go_at_call 70;(with_reducible refine hme.mono ?_);clear hme;rintro e w4 ⟨rfl,hb4⟩;have HB4:Hid (Below w.heap.size w w4):=HBR.out.trans (hb4.mono HBR.out.size);clear hb4))
      have hrr:r=rm:=by rw[HRJ.out,HNX.out];exact mays_no (by have q:=HRM.out;simp at q;exact q) hz2
      have hrc:rc=rm∧fee=0:=by have q:=HQ.out;rw[if_pos (by rw[hrr];exact hz2),hrr] at q;exact Prod.mk.inj q
      exact bodyPost_ret (v:= .tuple #[.int .i64 0,.int .i64 rm]) (by simp[results,Tryz.results32,go_sem]) rfl ⟨by rw[hrc.1,hrc.2],HB4.out⟩
   ·have hr0:r=0:=by rw[HRJ.out,List.drop_of_length_le (by omega)];rfl
    have hki:¬(j:Int)<(ts.length:Int):=by omega
    have hqq:=HQ.out
    rw[if_neg (by simp[hr0])] at hqq
    have HQQ:Hid ((rc,fee)=if k=2∧mb=false then (6,0) else if sv-so<0 then (8,0) else (0,sv-so)):=hqq
    have HVS:∀V,Below wr.heap.size wr V→Calls Tryz.prog 72 #[.slice va ts.length vc] V fun e w'=>e= .returned (.int .i64 sv)∧Below V.heap.size V w':=fun V hV=>by
     rw[HSV.out]
     exact l4Sum_any ts.length vc va ts V htl HVO.out ((own_at2 hO rfl (fun t ht=>by have:=(coin_more (HTK.out _ (getC_mem ht))).2.2.2;omega)).below hV (Nat.le_refl _))
    have HOS:∀V,Below w.heap.size w V→Calls Tryz.prog 73 #[.pointer (some ⟨P,0,none⟩)] V fun e w'=>e= .returned (.int .i64 so)∧w'=V:=fun V hV=>by
     rw[HSO.out]
     exact l3Sum_any P m d oa os V hm4 HOV.out (HX.out.o.below hV (Nat.le_refl _)) (cells4 ((keepb HP1.out hV).out)).2.2.2.1
    obtain ⟨p0,p1,p2,p3,_⟩:=cells4 ((keepb HP1.out HBR.out).out)
    obtain ⟨W,hWW⟩:∃W,W=wr:=⟨_,rfl⟩
    subst hWW
    clear hr0 hqq hO hO2
    by_cases hk2:k=2
    ·have hk2b:(k==2)=true:=by simp[hk2]
     have HK2:Hid (k=2):=hk2
     clear hk2
     have hhs:=l1Has_any L gn gc ga gs f id W hgm ((HBR.out.cell (p:=⟨L,1,none⟩) hLl).trans HL1.out) (HGS.out.below HBR.out (Nat.le_refl _))
     rw[←HMB.out] at hhs
     cases mb
     ·go_wp2_with (first
       |(go_at_call 71;(with_reducible refine hhs.mono ?_);clear hhs;rintro e w5 ⟨rfl,hb5⟩;have HB5:Hid (Below w.heap.size w w5):=HBR.out.trans (hb5.mono HBR.out.size);clear hb5))
      have hrc:rc=6∧fee=0:=by have q:=HQQ.out;simp[HK2.out] at q;exact q
      exact bodyPost_ret (v:= .tuple #[.int .i64 0,.int .i64 6]) (by simp[results,Tryz.results32,go_sem]) rfl ⟨by rw[hrc.1,hrc.2],HB5.out⟩
     ·have HQZ:Hid ((rc,fee)=if sv-so<0 then ((8,0):Int×Int) else (0,sv-so)):=HQQ.out.trans (if_neg (by simp))
      go_wp2_with (first
       |(go_at_call 71;(with_reducible refine hhs.mono ?_);clear hhs;rintro e w5 ⟨rfl,hb5⟩;have HB5:Hid (Below w.heap.size w w5):=HBR.out.trans (hb5.mono HBR.out.size);have hvs:=HVS w5 hb5;clear hb5)
       |fail)
      by_cases hfee:sv-so<0
      ·go_wp2_with (first
        |(go_at_call 72;(with_reducible refine hvs.mono ?_);clear hvs;rintro e w6 ⟨rfl,hb6⟩;have HB6:Hid (Below w.heap.size w w6):=HB5.out.trans (hb6.mono HB5.out.size);clear hb6;have hos:=HOS w6 HB6.out)
        |(go_at_call 73;(with_reducible refine hos.mono ?_);clear hos;rintro e w7 ⟨rfl,hw7⟩;have hw8:=hw7.symm;subst hw8))
       have hrc:rc=8∧fee=0:=by have q:=HQZ.out;rw[if_pos (by omega)] at q;exact Prod.mk.inj q
       exact bodyPost_ret (v:= .tuple #[.int .i64 0,.int .i64 8]) (by simp[results,Tryz.results32,go_sem]) rfl ⟨by rw[hrc.1,hrc.2],HB6.out⟩
      ·go_wp2_with (first
        |(go_at_call 72;(with_reducible refine hvs.mono ?_);clear hvs;rintro e w6 ⟨rfl,hb6⟩;have HB6:Hid (Below w.heap.size w w6):=HB5.out.trans (hb6.mono HB5.out.size);clear hb6;have hos:=HOS w6 HB6.out)
        |(go_at_call 73;(with_reducible refine hos.mono ?_);clear hos;rintro e w7 ⟨rfl,hw7⟩;have hw8:=hw7.symm;subst hw8))
       have hrc:rc=0∧fee=sv-so:=by have q:=HQZ.out;rw[if_neg (by omega)] at q;exact Prod.mk.inj q
       exact bodyPost_ret (v:= .tuple #[.int .i64 (sv-so),.int .i64 0]) (by simp[results,Tryz.results32,go_sem]) rfl ⟨by rw[hrc.1,hrc.2],HB6.out⟩
    ·have hk2b:(k==2)=false:=by simpa using hk2
     have HQZ:Hid ((rc,fee)=if sv-so<0 then ((8,0):Int×Int) else (0,sv-so)):=HQQ.out.trans (if_neg (fun e=>hk2 e.1))
     have hvs:=HVS W (Below.refl _ _)
     by_cases hfee:sv-so<0
     ·go_wp2_with (first
       |(go_at_call 72;(with_reducible refine hvs.mono ?_);clear hvs;rintro e w6 ⟨rfl,hb6⟩;have HB6:Hid (Below w.heap.size w w6):=HBR.out.trans (hb6.mono HBR.out.size);clear hb6;have hos:=HOS w6 HB6.out)
       |(go_at_call 73;(with_reducible refine hos.mono ?_);clear hos;rintro e w7 ⟨rfl,hw7⟩;have hw8:=hw7.symm;subst hw8))
      have hrc:rc=8∧fee=0:=by have q:=HQZ.out;rw[if_pos (by omega)] at q;exact Prod.mk.inj q
      exact bodyPost_ret (v:= .tuple #[.int .i64 0,.int .i64 8]) (by simp[results,Tryz.results32,go_sem]) rfl ⟨by rw[hrc.1,hrc.2],HB6.out⟩
     ·go_wp2_with (first
       |(go_at_call 72;(with_reducible refine hvs.mono ?_);clear hvs;rintro e w6 ⟨rfl,hb6⟩;have HB6:Hid (Below w.heap.size w w6):=HBR.out.trans (hb6.mono HBR.out.size);clear hb6;have hos:=HOS w6 HB6.out)
       |(go_at_call 73;(with_reducible refine hos.mono ?_);clear hos;rintro e w7 ⟨rfl,hw7⟩;have hw8:=hw7.symm;subst hw8))
      have hrc:rc=0∧fee=sv-so:=by have q:=HQZ.out;rw[if_neg (by omega)] at q;exact Prod.mk.inj q
      exact bodyPost_ret (v:= .tuple #[.int .i64 (sv-so),.int .i64 0]) (by simp[results,Tryz.results32,go_sem]) rfl ⟨by rw[hrc.1,hrc.2],HB6.out⟩
set_option maxRecDepth 20000 in
set_option maxHeartbeats 4000000 in
theorem sCheckTx_gen (tn tc gn gc:Nat) (ta ga:Option Addr) (ss:List ByteArray) (gs:List (Int×Int)) (nc cc lo hi:Nat) (ca:Option Addr) (cs:List Co) (kv:Nat→Value) (n c m d:Nat) (ia oa:Option Addr) (k f:Int) (rs:List (Int×Int)) (os:List Ou) (h:Int) (w:World) (hf:Fine ss gs) (htc:tn≤tc) (hgc:gn≤gc) (htm:tc≤maxLen) (hgm:gc≤maxLen) (hL:LedAt w ta tn ga gn ss gs) (hnc:nc≤1048576) (hkc:∀j,j<nc→(cs.getD j C0).l.length≤1048576) (hlc:cs.length=nc) (hC:CAt w ca nc cs) (hO:coinsR cs=0→COwn w lo hi (.slice ca nc cc) nc (fun j=>cs.getD j C0) kv) (hlo:lo≤w.heap.size) (hn:n≤1048576) (hm:m≤1048576) (hc1:n≤c) (hc2:c≤maxLen) (hk:∀j,j<m→(os.getD j O0).l.length≤1048576) (hX:TxAt w ia n oa m rs os):
 Calls Tryz.prog 7 #[.agg #[.slice ta tn tc,.slice ga gn gc],.slice ca nc cc,.agg #[.int .i64 k,.int .i64 f,.slice ia n c,.slice oa m d],.int .i64 h] w fun e w'=>e= .returned (.agg #[.int .i64 (checkR ss gs cs k f rs os h).1,.int .i64 (checkR ss gs cs k f rs os h).2])∧Below w.heap.size w w':=by
 have HW0:Hid (KBx w (((w.alloc (.cells #[.slice ta tn tc,.slice ga gn gc] 27)).alloc (.cells #[.int .i64 k,.int .i64 f,.slice ia n c,.slice oa m d] 32)).alloc (.cells #[.int .i64 0,.int .i64 0] 36)) ta tn tc ga gn gc k f ia n c oa m d):=KBx.start
 obtain ⟨c0,c1⟩:=cells2 HW0.out.led
 obtain ⟨r0,r1⟩:=cells2 HW0.out.res
 have f0:=Joins.unfrozen_of_block HW0.out.res 0
 have f1:=Joins.unfrozen_of_block HW0.out.res 1
 have hF1:=l1Fault_any w.heap.size tn gn tc gc ta ga ss gs (((w.alloc (.cells #[.slice ta tn tc,.slice ga gn gc] 27)).alloc (.cells #[.int .i64 k,.int .i64 f,.slice ia n c,.slice oa m d] 32)).alloc (.cells #[.int .i64 0,.int .i64 0] 36)) (lt_of_block HW0.out.led) c0 c1 htc hgc htm hgm hf.s (hL.s.below HW0.out.bel (Nat.le_refl _)) (hL.g.below HW0.out.bel (Nat.le_refl _))
 have HF2:∀v,Below w.heap.size w v→Calls Tryz.prog 27 #[.slice ca nc cc] v fun e w'=>e= .returned (.int .i64 (coinsR cs))∧Below v.heap.size v w':=fun v hv=>l4Fault_any nc cc ca cs v hnc hkc (hC.below hv (Nat.le_refl _))
 have HF3:∀v,KBx w v ta tn tc ga gn gc k f ia n c oa m d→Calls Tryz.prog 28 #[.pointer (some ⟨w.heap.size+1,0,none⟩)] v fun e w'=>e= .returned (.int .i64 (txR k f rs os))∧Below v.heap.size v w':=fun v hv=>l3Fault_any (w.heap.size+1) n c m d ia oa k f rs os v hn hm hc1 hc2 hk (hX.below hv.bel (Nat.le_refl _)) hv.tx
 obtain ⟨bh,hbh⟩:∃b,b=inB h 0 999:=⟨_,rfl⟩
 have HHT:∀v,Calls Tryz.prog 29 #[.int .i64 h] v fun e w'=>e= .returned (.bool bh)∧w'=v:=fun v=>by rw[hbh];exact l2Height_any _ v
 unfold checkR
 by_cases h0:flt ss gs=0
 ·rw[if_neg (by simp[h0])]
  rw[h0] at hF1
  by_cases h1:coinsR cs=0
  ·rw[if_neg (by simp[h1])]
   have HC1:Hid (coinsR cs=0):=h1
   rw[h1] at HF2
   unfold ckR
   by_cases h2:txR k f rs os=0
   ·rw[if_neg (by simp[h2])]
    have HT2:Hid (txR k f rs os=0):=h2
    rw[h2] at HF3
    rw[←hbh]
    cases bh
    ·rw[if_pos rfl]
     have HXT:∀v,Below w.heap.size w v→True:=fun _ _=>trivial
     clear hf hL hkc hO hk hX hC h0 h1 h2 hbh
     go_enter Tryz.func7,Tryz.ntmps7
     go_wp2_with (first
      |(go_at_call 26;(with_reducible refine hF1.mono ?_);clear hF1;rintro e w2 ⟨rfl,hb⟩;have HW2:Hid (KBx w w2 ta tn tc ga gn gc k f ia n c oa m d):=HW0.out.step hb;clear hb;clear r0 r1 f0 f1;obtain ⟨r0,r1⟩:=cells2 HW2.out.res;have f0:=Joins.unfrozen_of_block HW2.out.res 0;have f1:=Joins.unfrozen_of_block HW2.out.res 1;have hF2:=HF2 w2 HW2.out.bel)
      |(go_at_call 27;(with_reducible refine hF2.mono ?_);clear hF2;rintro e w3 ⟨rfl,hb⟩;have HW3:Hid (KBx w w3 ta tn tc ga gn gc k f ia n c oa m d):=HW2.out.step hb;clear hb;clear r0 r1 f0 f1;obtain ⟨r0,r1⟩:=cells2 HW3.out.res;have f0:=Joins.unfrozen_of_block HW3.out.res 0;have f1:=Joins.unfrozen_of_block HW3.out.res 1;have hF3:=HF3 w3 HW3.out)
      |(go_at_call 28;(with_reducible refine hF3.mono ?_);clear hF3;rintro e w4 ⟨rfl,hb⟩;have HW4:Hid (KBx w w4 ta tn tc ga gn gc k f ia n c oa m d):=HW3.out.step hb;clear hb;clear r0 r1 f0 f1;obtain ⟨r0,r1⟩:=cells2 HW4.out.res;have f0:=Joins.unfrozen_of_block HW4.out.res 0;have f1:=Joins.unfrozen_of_block HW4.out.res 1;obtain ⟨p0,p1,p2,p3,_⟩:=cells4 HW4.out.tx;have hht:=HHT w4)
      |(go_at_call 29;(with_reducible refine hht.mono ?_);clear hht;rintro e w5 ⟨rfl,hw5⟩;have hw6:=hw5.symm;subst hw6;have hxt:=HXT w4 HW4.out.bel))
     obtain ⟨s0,s1,s2⟩:=two_set HW4.out.res (.int .i64 3) (.int .i64 0)
     exact bodyPost_ret (v:= .agg #[.int .i64 3,.int .i64 0]) (by simp[results,Tryz.results7,go_sem,s0,s1]) rfl ⟨rfl,below_two HW4.out.bel (by omega) _ _⟩
    ·rw[if_neg (by simp)]
     unfold fee2R notedC
     have HXT:∀v,Below w.heap.size w v→Calls Tryz.prog 30 #[.agg #[.int .i64 k,.int .i64 f,.slice ia n c,.slice oa m d]] v fun e w'=>e= .returned (.agg #[.int .i64 (ttR k f rs os).1,.string (str (ttR k f rs os).2)])∧Below v.heap.size v w':=fun v hv=>sTxText_any n c m d ia oa k f rs os v hn hm hc1 hc2 hk (hX.below hv (Nat.le_refl _))
     have HCK0:∀v id,KBx w v ta tn tc ga gn gc k f ia n c oa m d→Calls Tryz.prog 32 #[.pointer (some ⟨w.heap.size,0,none⟩),.slice ca nc cc,.pointer (some ⟨w.heap.size+1,0,none⟩),.int .i64 id,.int .i64 h] v fun e w'=>e= .returned (.tuple #[.int .i64 (feeR gs cs k f rs os id h).2,.int .i64 (feeR gs cs k f rs os id h).1])∧Below v.heap.size v w':=fun v id hv=>
      l5Check_any w.heap.size (w.heap.size+1) gn gc nc cc lo hi ga ca gs cs kv n c m d ia oa k f rs os id h v (Nat.le_trans hgc hgm) (lt_of_block hv.led) (cells2 hv.led).2 (hL.g.below hv.bel (Nat.le_refl _)) hlc HC1.out ((hO HC1.out).below hv.bel) (Nat.le_trans hlo hv.bel.size) hn (hX.below hv.bel (Nat.le_refl _)) hv.tx HT2.out
     obtain ⟨cd,hcd⟩:∃x,x=(ttR k f rs os).1:=⟨_,rfl⟩
     obtain ⟨tt,htt⟩:∃x,x=(ttR k f rs os).2:=⟨_,rfl⟩
     rw[←hcd,←htt] at HXT ⊢
     obtain ⟨nn,hnn⟩:∃x,x=num ss (str tt):=⟨_,rfl⟩
     have HAT:∀v,Below w.heap.size w v→Calls Tryz.prog 31 #[.slice ta tn tc,.string (str tt)] v fun e w'=>e= .returned (.int .i64 (nn:Nat))∧w'=v:=fun v hv=>by
      rw[hnn]
      exact l1At_any ta tn tc ss (str tt) v (Nat.le_trans htc htm) (hL.s.below hv (Nat.le_refl _))
     rw[←hnn]
     have HCK1:=fun v=>HCK0 v (nn:Int)
     clear HCK0
     have hz:(feeR gs cs k f rs os nn h).1≠0→(feeR gs cs k f rs os nn h).2=0:=by
      unfold feeR
      repeat' split
      all_goals (intro hq;first|rfl|exact absurd rfl hq)
     obtain ⟨rc,hrc⟩:∃x,x=(feeR gs cs k f rs os nn h).1:=⟨_,rfl⟩
     obtain ⟨fe,hfe⟩:∃x,x=(feeR gs cs k f rs os nn h).2:=⟨_,rfl⟩
     obtain ⟨FR,hFR⟩:∃x,x=feeR gs cs k f rs os nn h:=⟨_,rfl⟩
     rw[←hrc,←hfe] at HCK1 hz
     rw[←hFR] at hrc hfe ⊢
     clear hf hL hkc hO hk hX hC h0 h1 h2 hbh hcd htt hnn hFR
     by_cases h3:cd=0
     ·subst h3
      rw[if_neg (show ¬(0:Int)≠0 by simp)]
      by_cases h4:nn=0
      ·rw[if_pos h4,if_pos (by decide)]
       subst h4
       have HCK:∀v,KBx w v ta tn tc ga gn gc k f ia n c oa m d→True:=fun _ _=>trivial
       clear HCK1 hz hrc hfe
       go_enter Tryz.func7,Tryz.ntmps7
       go_wp2_with (first
        |(go_at_call 26;(with_reducible refine hF1.mono ?_);clear hF1;rintro e w2 ⟨rfl,hb⟩;have HW2:Hid (KBx w w2 ta tn tc ga gn gc k f ia n c oa m d):=HW0.out.step hb;clear hb;clear r0 r1 f0 f1;obtain ⟨r0,r1⟩:=cells2 HW2.out.res;have f0:=Joins.unfrozen_of_block HW2.out.res 0;have f1:=Joins.unfrozen_of_block HW2.out.res 1;have hF2:=HF2 w2 HW2.out.bel)
        |(go_at_call 27;(with_reducible refine hF2.mono ?_);clear hF2;rintro e w3 ⟨rfl,hb⟩;have HW3:Hid (KBx w w3 ta tn tc ga gn gc k f ia n c oa m d):=HW2.out.step hb;clear hb;clear r0 r1 f0 f1;obtain ⟨r0,r1⟩:=cells2 HW3.out.res;have f0:=Joins.unfrozen_of_block HW3.out.res 0;have f1:=Joins.unfrozen_of_block HW3.out.res 1;have hF3:=HF3 w3 HW3.out)
        |(go_at_call 28;(with_reducible refine hF3.mono ?_);clear hF3;rintro e w4 ⟨rfl,hb⟩;have HW4:Hid (KBx w w4 ta tn tc ga gn gc k f ia n c oa m d):=HW3.out.step hb;clear hb;clear r0 r1 f0 f1;obtain ⟨r0,r1⟩:=cells2 HW4.out.res;have f0:=Joins.unfrozen_of_block HW4.out.res 0;have f1:=Joins.unfrozen_of_block HW4.out.res 1;obtain ⟨p0,p1,p2,p3,_⟩:=cells4 HW4.out.tx;have hht:=HHT w4)
        |(go_at_call 29;(with_reducible refine hht.mono ?_);clear hht;rintro e w5 ⟨rfl,hw5⟩;have hw6:=hw5.symm;subst hw6;have hxt:=HXT w4 HW4.out.bel)
        |(go_at_call 30;(with_reducible refine hxt.mono ?_);clear hxt;rintro e w6 ⟨rfl,hb⟩;have HW6:Hid (KBx w (w6.alloc (.cells #[.int .i64 0,.string (str tt)] 43)) ta tn tc ga gn gc k f ia n c oa m d):=(HW4.out.step hb).step (below_box _);clear hb;clear r0 r1 f0 f1;obtain ⟨r0,r1⟩:=cells2 HW6.out.res;have f0:=Joins.unfrozen_of_block HW6.out.res 0;have f1:=Joins.unfrozen_of_block HW6.out.res 1;obtain ⟨q0,q1⟩:=cells2 (heap_alloc_new w6 (.cells #[.int .i64 0,.string (str tt)] 43));obtain ⟨l0,l1⟩:=cells2 HW6.out.led;have hat:=HAT (w6.alloc (.cells #[.int .i64 0,.string (str tt)] 43)) HW6.out.bel)
        |(go_at_call 31;(with_reducible refine hat.mono ?_);clear hat;rintro e w7 ⟨rfl,hw7⟩;have hw8:=hw7.symm;subst hw8;have hck:=HCK (w6.alloc (.cells #[.int .i64 0,.string (str tt)] 43)) HW6.out))
       obtain ⟨s0,s1,s2⟩:=two_set HW6.out.res (.int .i64 4) (.int .i64 0)
       exact bodyPost_ret (v:= .agg #[.int .i64 4,.int .i64 0]) (by simp[results,Tryz.results7,go_sem,s0,s1]) rfl ⟨rfl,below_two HW6.out.bel (by omega) _ _⟩
      ·rw[if_neg h4,if_neg (by simp)]
       have h5:((nn:Int)==0)=false:=by simp;omega
       have h6:¬(nn:Int)=0:=by omega
       have HCK:=HCK1
       clear HCK1 h4
       rw[←hrc,←hfe]
       clear hrc hfe
       by_cases h7:rc=0
       ·subst h7
        clear hz
        go_enter Tryz.func7,Tryz.ntmps7
        go_wp2_with (first
         |(go_at_call 26;(with_reducible refine hF1.mono ?_);clear hF1;rintro e w2 ⟨rfl,hb⟩;have HW2:Hid (KBx w w2 ta tn tc ga gn gc k f ia n c oa m d):=HW0.out.step hb;clear hb;clear r0 r1 f0 f1;obtain ⟨r0,r1⟩:=cells2 HW2.out.res;have f0:=Joins.unfrozen_of_block HW2.out.res 0;have f1:=Joins.unfrozen_of_block HW2.out.res 1;have hF2:=HF2 w2 HW2.out.bel)
         |(go_at_call 27;(with_reducible refine hF2.mono ?_);clear hF2;rintro e w3 ⟨rfl,hb⟩;have HW3:Hid (KBx w w3 ta tn tc ga gn gc k f ia n c oa m d):=HW2.out.step hb;clear hb;clear r0 r1 f0 f1;obtain ⟨r0,r1⟩:=cells2 HW3.out.res;have f0:=Joins.unfrozen_of_block HW3.out.res 0;have f1:=Joins.unfrozen_of_block HW3.out.res 1;have hF3:=HF3 w3 HW3.out)
         |(go_at_call 28;(with_reducible refine hF3.mono ?_);clear hF3;rintro e w4 ⟨rfl,hb⟩;have HW4:Hid (KBx w w4 ta tn tc ga gn gc k f ia n c oa m d):=HW3.out.step hb;clear hb;clear r0 r1 f0 f1;obtain ⟨r0,r1⟩:=cells2 HW4.out.res;have f0:=Joins.unfrozen_of_block HW4.out.res 0;have f1:=Joins.unfrozen_of_block HW4.out.res 1;obtain ⟨p0,p1,p2,p3,_⟩:=cells4 HW4.out.tx;have hht:=HHT w4)
         |(go_at_call 29;(with_reducible refine hht.mono ?_);clear hht;rintro e w5 ⟨rfl,hw5⟩;have hw6:=hw5.symm;subst hw6;have hxt:=HXT w4 HW4.out.bel)
         |(go_at_call 30;(with_reducible refine hxt.mono ?_);clear hxt;rintro e w6 ⟨rfl,hb⟩;have HW6:Hid (KBx w (w6.alloc (.cells #[.int .i64 0,.string (str tt)] 43)) ta tn tc ga gn gc k f ia n c oa m d):=(HW4.out.step hb).step (below_box _);clear hb;clear r0 r1 f0 f1;obtain ⟨r0,r1⟩:=cells2 HW6.out.res;have f0:=Joins.unfrozen_of_block HW6.out.res 0;have f1:=Joins.unfrozen_of_block HW6.out.res 1;obtain ⟨q0,q1⟩:=cells2 (heap_alloc_new w6 (.cells #[.int .i64 0,.string (str tt)] 43));obtain ⟨l0,l1⟩:=cells2 HW6.out.led;have hat:=HAT (w6.alloc (.cells #[.int .i64 0,.string (str tt)] 43)) HW6.out.bel)
         |(go_at_call 31;(with_reducible refine hat.mono ?_);clear hat;rintro e w7 ⟨rfl,hw7⟩;have hw8:=hw7.symm;subst hw8;have hck:=HCK (w6.alloc (.cells #[.int .i64 0,.string (str tt)] 43)) HW6.out)
         |(go_at_call 32;(with_reducible refine hck.mono ?_);clear hck;rintro e w9 ⟨rfl,hb⟩;have HW9:Hid (KBx w w9 ta tn tc ga gn gc k f ia n c oa m d):=HW6.out.step hb;clear hb;clear r0 r1 f0 f1;obtain ⟨r0,r1⟩:=cells2 HW9.out.res;have f0:=Joins.unfrozen_of_block HW9.out.res 0;have f1:=Joins.unfrozen_of_block HW9.out.res 1))
        obtain ⟨s0,s1,s2⟩:=two_set HW9.out.res (.int .i64 0) (.int .i64 fe)
        exact bodyPost_ret (v:= .agg #[.int .i64 0,.int .i64 fe]) (by simp[results,Tryz.results7,go_sem,s0,s1]) rfl ⟨rfl,below_two HW9.out.bel (by omega) _ _⟩
       ·obtain rfl:fe=0:=hz h7
        clear hz
        go_enter Tryz.func7,Tryz.ntmps7
        go_wp2_with (first
         |(go_at_call 26;(with_reducible refine hF1.mono ?_);clear hF1;rintro e w2 ⟨rfl,hb⟩;have HW2:Hid (KBx w w2 ta tn tc ga gn gc k f ia n c oa m d):=HW0.out.step hb;clear hb;clear r0 r1 f0 f1;obtain ⟨r0,r1⟩:=cells2 HW2.out.res;have f0:=Joins.unfrozen_of_block HW2.out.res 0;have f1:=Joins.unfrozen_of_block HW2.out.res 1;have hF2:=HF2 w2 HW2.out.bel)
         |(go_at_call 27;(with_reducible refine hF2.mono ?_);clear hF2;rintro e w3 ⟨rfl,hb⟩;have HW3:Hid (KBx w w3 ta tn tc ga gn gc k f ia n c oa m d):=HW2.out.step hb;clear hb;clear r0 r1 f0 f1;obtain ⟨r0,r1⟩:=cells2 HW3.out.res;have f0:=Joins.unfrozen_of_block HW3.out.res 0;have f1:=Joins.unfrozen_of_block HW3.out.res 1;have hF3:=HF3 w3 HW3.out)
         |(go_at_call 28;(with_reducible refine hF3.mono ?_);clear hF3;rintro e w4 ⟨rfl,hb⟩;have HW4:Hid (KBx w w4 ta tn tc ga gn gc k f ia n c oa m d):=HW3.out.step hb;clear hb;clear r0 r1 f0 f1;obtain ⟨r0,r1⟩:=cells2 HW4.out.res;have f0:=Joins.unfrozen_of_block HW4.out.res 0;have f1:=Joins.unfrozen_of_block HW4.out.res 1;obtain ⟨p0,p1,p2,p3,_⟩:=cells4 HW4.out.tx;have hht:=HHT w4)
         |(go_at_call 29;(with_reducible refine hht.mono ?_);clear hht;rintro e w5 ⟨rfl,hw5⟩;have hw6:=hw5.symm;subst hw6;have hxt:=HXT w4 HW4.out.bel)
         |(go_at_call 30;(with_reducible refine hxt.mono ?_);clear hxt;rintro e w6 ⟨rfl,hb⟩;have HW6:Hid (KBx w (w6.alloc (.cells #[.int .i64 0,.string (str tt)] 43)) ta tn tc ga gn gc k f ia n c oa m d):=(HW4.out.step hb).step (below_box _);clear hb;clear r0 r1 f0 f1;obtain ⟨r0,r1⟩:=cells2 HW6.out.res;have f0:=Joins.unfrozen_of_block HW6.out.res 0;have f1:=Joins.unfrozen_of_block HW6.out.res 1;obtain ⟨q0,q1⟩:=cells2 (heap_alloc_new w6 (.cells #[.int .i64 0,.string (str tt)] 43));obtain ⟨l0,l1⟩:=cells2 HW6.out.led;have hat:=HAT (w6.alloc (.cells #[.int .i64 0,.string (str tt)] 43)) HW6.out.bel)
         |(go_at_call 31;(with_reducible refine hat.mono ?_);clear hat;rintro e w7 ⟨rfl,hw7⟩;have hw8:=hw7.symm;subst hw8;have hck:=HCK (w6.alloc (.cells #[.int .i64 0,.string (str tt)] 43)) HW6.out)
         |(go_at_call 32;(with_reducible refine hck.mono ?_);clear hck;rintro e w9 ⟨rfl,hb⟩;have HW9:Hid (KBx w w9 ta tn tc ga gn gc k f ia n c oa m d):=HW6.out.step hb;clear hb;clear r0 r1 f0 f1;obtain ⟨r0,r1⟩:=cells2 HW9.out.res;have f0:=Joins.unfrozen_of_block HW9.out.res 0;have f1:=Joins.unfrozen_of_block HW9.out.res 1))
        obtain ⟨s0,s1,s2⟩:=two_set HW9.out.res (.int .i64 rc) (.int .i64 0)
        exact bodyPost_ret (v:= .agg #[.int .i64 rc,.int .i64 0]) (by simp[results,Tryz.results7,go_sem,s0,s1]) rfl ⟨rfl,below_two HW9.out.bel (by omega) _ _⟩
     ·rw[if_pos h3,if_pos h3]
      clear HCK1 hz hrc hfe
      go_enter Tryz.func7,Tryz.ntmps7
      go_wp2_with (first
       |(go_at_call 26;(with_reducible refine hF1.mono ?_);clear hF1;rintro e w2 ⟨rfl,hb⟩;have HW2:Hid (KBx w w2 ta tn tc ga gn gc k f ia n c oa m d):=HW0.out.step hb;clear hb;clear r0 r1 f0 f1;obtain ⟨r0,r1⟩:=cells2 HW2.out.res;have f0:=Joins.unfrozen_of_block HW2.out.res 0;have f1:=Joins.unfrozen_of_block HW2.out.res 1;have hF2:=HF2 w2 HW2.out.bel)
       |(go_at_call 27;(with_reducible refine hF2.mono ?_);clear hF2;rintro e w3 ⟨rfl,hb⟩;have HW3:Hid (KBx w w3 ta tn tc ga gn gc k f ia n c oa m d):=HW2.out.step hb;clear hb;clear r0 r1 f0 f1;obtain ⟨r0,r1⟩:=cells2 HW3.out.res;have f0:=Joins.unfrozen_of_block HW3.out.res 0;have f1:=Joins.unfrozen_of_block HW3.out.res 1;have hF3:=HF3 w3 HW3.out)
       |(go_at_call 28;(with_reducible refine hF3.mono ?_);clear hF3;rintro e w4 ⟨rfl,hb⟩;have HW4:Hid (KBx w w4 ta tn tc ga gn gc k f ia n c oa m d):=HW3.out.step hb;clear hb;clear r0 r1 f0 f1;obtain ⟨r0,r1⟩:=cells2 HW4.out.res;have f0:=Joins.unfrozen_of_block HW4.out.res 0;have f1:=Joins.unfrozen_of_block HW4.out.res 1;obtain ⟨p0,p1,p2,p3,_⟩:=cells4 HW4.out.tx;have hht:=HHT w4)
       |(go_at_call 29;(with_reducible refine hht.mono ?_);clear hht;rintro e w5 ⟨rfl,hw5⟩;have hw6:=hw5.symm;subst hw6;have hxt:=HXT w4 HW4.out.bel)
       |(go_at_call 30;(with_reducible refine hxt.mono ?_);clear hxt;rintro e w6 ⟨rfl,hb⟩;have HW6:Hid (KBx w (w6.alloc (.cells #[.int .i64 cd,.string (str tt)] 43)) ta tn tc ga gn gc k f ia n c oa m d):=(HW4.out.step hb).step (below_box _);clear hb;clear r0 r1 f0 f1;obtain ⟨r0,r1⟩:=cells2 HW6.out.res;have f0:=Joins.unfrozen_of_block HW6.out.res 0;have f1:=Joins.unfrozen_of_block HW6.out.res 1;obtain ⟨q0,q1⟩:=cells2 (heap_alloc_new w6 (.cells #[.int .i64 cd,.string (str tt)] 43));obtain ⟨l0,l1⟩:=cells2 HW6.out.led;have hat:=HAT (w6.alloc (.cells #[.int .i64 cd,.string (str tt)] 43)) HW6.out.bel))
      obtain ⟨s0,s1,s2⟩:=two_set HW6.out.res (.int .i64 cd) (.int .i64 0)
      exact bodyPost_ret (v:= .agg #[.int .i64 cd,.int .i64 0]) (by simp[results,Tryz.results7,go_sem,s0,s1]) rfl ⟨rfl,below_two HW6.out.bel (by omega) _ _⟩
   ·rw[if_pos h2]
    obtain ⟨cd,hcd⟩:∃r,r=txR k f rs os:=⟨_,rfl⟩
    rw[←hcd] at h2 HF3 ⊢
    clear hf hL hkc hO hk hX hC h0 h1 hbh hcd
    go_enter Tryz.func7,Tryz.ntmps7
    go_wp2_with (first
     |(go_at_call 26;(with_reducible refine hF1.mono ?_);clear hF1;rintro e w2 ⟨rfl,hb⟩;have HW2:Hid (KBx w w2 ta tn tc ga gn gc k f ia n c oa m d):=HW0.out.step hb;clear hb;clear r0 r1 f0 f1;obtain ⟨r0,r1⟩:=cells2 HW2.out.res;have f0:=Joins.unfrozen_of_block HW2.out.res 0;have f1:=Joins.unfrozen_of_block HW2.out.res 1;have hF2:=HF2 w2 HW2.out.bel)
     |(go_at_call 27;(with_reducible refine hF2.mono ?_);clear hF2;rintro e w3 ⟨rfl,hb⟩;have HW3:Hid (KBx w w3 ta tn tc ga gn gc k f ia n c oa m d):=HW2.out.step hb;clear hb;clear r0 r1 f0 f1;obtain ⟨r0,r1⟩:=cells2 HW3.out.res;have f0:=Joins.unfrozen_of_block HW3.out.res 0;have f1:=Joins.unfrozen_of_block HW3.out.res 1;have hF3:=HF3 w3 HW3.out)
     |(go_at_call 28;(with_reducible refine hF3.mono ?_);clear hF3;rintro e w4 ⟨rfl,hb⟩;have HW4:Hid (KBx w w4 ta tn tc ga gn gc k f ia n c oa m d):=HW3.out.step hb;clear hb;clear r0 r1 f0 f1;obtain ⟨r0,r1⟩:=cells2 HW4.out.res;have f0:=Joins.unfrozen_of_block HW4.out.res 0;have f1:=Joins.unfrozen_of_block HW4.out.res 1;obtain ⟨p0,p1,p2,p3,_⟩:=cells4 HW4.out.tx;have hht:=HHT w4))
    obtain ⟨s0,s1,s2⟩:=two_set HW4.out.res (.int .i64 cd) (.int .i64 0)
    exact bodyPost_ret (v:= .agg #[.int .i64 cd,.int .i64 0]) (by simp[results,Tryz.results7,go_sem,s0,s1]) rfl ⟨rfl,below_two HW4.out.bel (by omega) _ _⟩
  ·rw[if_pos h1]
   obtain ⟨cd,hcd⟩:∃r,r=coinsR cs:=⟨_,rfl⟩
   rw[←hcd] at h1 HF2 ⊢
   clear hf hL hkc hO hk hX hC h0 hbh hcd
   go_enter Tryz.func7,Tryz.ntmps7
   go_wp2_with (first
    |(go_at_call 26;(with_reducible refine hF1.mono ?_);clear hF1;rintro e w2 ⟨rfl,hb⟩;have HW2:Hid (KBx w w2 ta tn tc ga gn gc k f ia n c oa m d):=HW0.out.step hb;clear hb;clear r0 r1 f0 f1;obtain ⟨r0,r1⟩:=cells2 HW2.out.res;have f0:=Joins.unfrozen_of_block HW2.out.res 0;have f1:=Joins.unfrozen_of_block HW2.out.res 1;have hF2:=HF2 w2 HW2.out.bel)
    |(go_at_call 27;(with_reducible refine hF2.mono ?_);clear hF2;rintro e w3 ⟨rfl,hb⟩;have HW3:Hid (KBx w w3 ta tn tc ga gn gc k f ia n c oa m d):=HW2.out.step hb;clear hb;clear r0 r1 f0 f1;obtain ⟨r0,r1⟩:=cells2 HW3.out.res;have f0:=Joins.unfrozen_of_block HW3.out.res 0;have f1:=Joins.unfrozen_of_block HW3.out.res 1;have hF3:=HF3 w3 HW3.out))
   obtain ⟨s0,s1,s2⟩:=two_set HW3.out.res (.int .i64 cd) (.int .i64 0)
   exact bodyPost_ret (v:= .agg #[.int .i64 cd,.int .i64 0]) (by simp[results,Tryz.results7,go_sem,s0,s1]) rfl ⟨rfl,below_two HW3.out.bel (by omega) _ _⟩
 ·rw[if_pos h0]
  obtain ⟨cd,hcd⟩:∃r,r=flt ss gs:=⟨_,rfl⟩
  rw[←hcd] at h0 hF1 ⊢
  clear hf hL hkc hO hk hX hC hbh hcd
  go_enter Tryz.func7,Tryz.ntmps7
  go_wp2_with (first
   |(go_at_call 26;(with_reducible refine hF1.mono ?_);clear hF1;rintro e w2 ⟨rfl,hb⟩;have HW2:Hid (KBx w w2 ta tn tc ga gn gc k f ia n c oa m d):=HW0.out.step hb;clear hb;clear r0 r1 f0 f1;obtain ⟨r0,r1⟩:=cells2 HW2.out.res;have f0:=Joins.unfrozen_of_block HW2.out.res 0;have f1:=Joins.unfrozen_of_block HW2.out.res 1;have hF2:=HF2 w2 HW2.out.bel))
  obtain ⟨s0,s1,s2⟩:=two_set HW2.out.res (.int .i64 cd) (.int .i64 0)
  exact bodyPost_ret (v:= .agg #[.int .i64 cd,.int .i64 0]) (by simp[results,Tryz.results7,go_sem,s0,s1]) rfl ⟨rfl,below_two HW2.out.bel (by omega) _ _⟩
end Go.Proofs.YtagokfoimokniaaGreatDoor
