/- A transaction is spent in the program's purse. -/
import Derived.Test.YtagokfoimokniaaGreatDoorQq
import Derived.Test.YtagokfoimokniaaGreatDoorQr
import Derived.Test.YtagokfoimokniaaGreatDoorJn3
namespace Go.Proofs.YtagokfoimokniaaGreatDoor
open Go.RowKit Go.Maps Go.WideMaps
theorem GAt.turn {w w':World} {B n:Nat} {a:Option Addr} {l:List (Int×Int)} (h:GAt w a n l) (hB:IsMap w B) (hc:Chg w w' B (B+1)):GAt w' a n l:=by
 obtain ⟨es,cl,hm⟩:=hB
 obtain ⟨hn,h|⟨b,off,rfl,hlt,hk⟩⟩:=h
 ·exact ⟨hn,.inl h⟩
 ·exact ⟨hn,.inr ⟨b,off,rfl,Nat.lt_of_lt_of_le hlt hc.size,fun j hj=>⟨chg_cell hc hm (hk j hj).1,chg_cell hc hm (hk j hj).2⟩⟩⟩
theorem OAt.turn {w w':World} {B n:Nat} {a:Option Addr} {l:List Ou} (h:OAt w a n l) (hB:IsMap w B) (hc:Chg w w' B (B+1)):OAt w' a n l:=by
 obtain ⟨es,cl,hm⟩:=hB
 obtain ⟨hn,h|⟨b,off,rfl,hlt,hk⟩⟩:=h
 ·exact ⟨hn,.inl h⟩
 ·refine ⟨hn,.inr ⟨b,off,rfl,Nat.lt_of_lt_of_le hlt hc.size,fun j hj=> ?_⟩⟩
  obtain ⟨ka,kn,kc,h0,h1,h2,h3,h4,h5⟩:=hk j hj
  exact ⟨ka,kn,kc,chg_cell hc hm h0,chg_cell hc hm h1,chg_cell hc hm h2,chg_cell hc hm h3,h4,chg_ints hc hm h5⟩
theorem hasT_mem {a b:List Co} (h:∀c,c∈a↔c∈b) (t:Int):hasT a t=hasT b t:=by
 rw[Bool.eq_iff_iff]
 unfold hasT
 rw[List.any_eq_true,List.any_eq_true]
 constructor
 ·rintro ⟨c,h1,h2⟩;exact ⟨c,(h c).1 h1,h2⟩
 ·rintro ⟨c,h1,h2⟩;exact ⟨c,(h c).2 h1,h2⟩
def spendF (cs:List Co) (k f:Int) (rs:List (Int×Int)) (os:List Ou) (id h:Int):Int:=
 if txR k f rs os≠0 then txR k f rs os else if rs.all (hasC cs)=false then 4 else if hasT cs id=true then 7 else putsR (outC2 cs rs).length false id os h
theorem spendR_eq (cs:List Co) (k f:Int) (rs:List (Int×Int)) (os:List Ou) (id h:Int):
 spendR cs k f rs os id h=if coinsR cs≠0 then (coinsR cs,[]) else if spendF cs k f rs os id h≠0 then (spendF cs k f rs os id h,[]) else (0,addCs (outC2 cs rs) (newCs id h false os os.length)):=by
 unfold spendR spentR spendF
 by_cases h1:coinsR cs≠0
 ·simp only[if_pos h1]
 simp only[if_neg h1]
 by_cases h2:txR k f rs os≠0
 ·simp only[if_pos h2]
 simp only[if_neg h2]
 cases h3:rs.all (hasC cs)
 ·rfl
 ·cases h4:hasT cs id
  ·show putR (outC2 cs rs) id os h false=if putsR (outC2 cs rs).length false id os h≠0 then (putsR (outC2 cs rs).length false id os h,[]) else (0,addCs (outC2 cs rs) (newCs id h false os os.length))
   unfold putR
   rw[if_neg (by rw[rest_right (by simpa using h1)];simp),rest_no h4]
  ·rfl
theorem rest_split {cs:List Co} {rs:List (Int×Int)} (c:Co):c∈cs↔c∈outC2 cs rs∨c∈inC cs rs:=by
 unfold outC2 inC
 rw[List.mem_filter,List.mem_filter]
 constructor
 ·intro h
  cases e:memB rs (c.p,c.q)
  ·exact .inl ⟨h,by simp⟩
  ·exact .inr ⟨h,rfl⟩
 ·rintro (h|h)
  ·exact h.1
  ·exact h.1
theorem rest_apart {cs ps:List Co} {rs:List (Int×Int)} (h:RiseC cs) (hp:ps.Pairwise fun a b=>(a.p,a.q)≠(b.p,b.q)) (hm:∀c,c∈outC2 cs rs↔c∈ps):(ps++inC cs rs).Pairwise (fun a b=>(a.p,a.q)≠(b.p,b.q)):=by
 rw[List.pairwise_append]
 refine ⟨hp,rise_ne (h.filter _),fun a ha b hb e=> ?_⟩
 have h1:=(List.mem_filter.1 ((hm a).2 ha)).2
 have h2:=(List.mem_filter.1 hb).2
 rw[e,h2] at h1
 cases h1
structure SkM (v wr:World) (lo B:Nat) (cs:List Co) (rs:List (Int×Int)) (j:Nat) (ps:List (Co×Value)):Prop where
 pu:Pu wr lo B ps
 mem:∀c,c∈ps.map (·.1)↔c∈cs∧(c.p,c.q)∉rs.take j
 chg:Chg v wr B (B+1)
theorem SkM.find {v wr:World} {lo B j n:Nat} {cs:List Co} {rs:List (Int×Int)} {ps:List (Co×Value)} {o:Int×Int} (h:SkM v wr lo B cs rs j ps) (hall:rs.all (hasC cs)=true) (hn:rs.length=n) (hlt:j<n) (ho:o=rs.getD j G0) (hd:rs.Nodup):∃x,findP ps o=some x:=by
 have h1:hasC cs o=true:=List.all_eq_true.1 hall o (ref_mem hn hlt ho)
 obtain ⟨c,hc,e⟩:=List.mem_map.1 (hasC_iff.1 h1)
 have e':(c.p,c.q)=o:=e
 obtain ⟨x,hx,rfl⟩:=List.mem_map.1 ((h.mem c).2 ⟨hc,by rw[e'];exact ref_fresh hn hlt ho hd⟩)
 have:=find_mem h.pu.refs hx
 exact ⟨x,by rw[←e'];exact this⟩
theorem SkM.step {v wr w':World} {lo B j n:Nat} {cs:List Co} {rs:List (Int×Int)} {ps:List (Co×Value)} {o:Int×Int} (h:SkM v wr lo B cs rs j ps) (hn:rs.length=n) (hlt:j<n) (ho:o=rs.getD j G0) (hp:Pu w' lo B (dropP ps o)) (hch:Chg wr w' B (B+1)):SkM v w' lo B cs rs (j+1) (dropP ps o):=by
 refine ⟨hp,fun c=> ?_,h.chg.trans hch⟩
 rw[drop_map,take_ref hn hlt ho]
 unfold dropC
 rw[List.mem_filter,h.mem c,List.mem_append,List.mem_singleton]
 constructor
 ·rintro ⟨⟨a1,a2⟩,a3⟩
  refine ⟨a1,?_⟩
  rintro (e|e)
  ·exact a2 e
  ·exact (of_decide_eq_true a3) e
 ·rintro ⟨a1,a2⟩
  exact ⟨⟨a1,fun e=>a2 (.inl e)⟩,decide_eq_true fun e=>a2 (.inr e)⟩
theorem SkM.all {v wr:World} {lo B j:Nat} {cs:List Co} {rs:List (Int×Int)} {ps:List (Co×Value)} (h:SkM v wr lo B cs rs j ps) (hj:rs.length≤j):∀c,c∈outC2 cs rs↔c∈ps.map (·.1):=fun c=>by
 rw[h.mem c,List.take_of_length_le hj]
 unfold outC2
 rw[List.mem_filter]
 constructor
 ·rintro ⟨a1,a2⟩;exact ⟨a1,fun e=>by rw[memB_here.2 e] at a2;cases a2⟩
 ·rintro ⟨a1,a2⟩
  refine ⟨a1,?_⟩
  cases e:memB rs (c.p,c.q)
  ·rfl
  ·exact absurd (memB_here.1 e) a2
theorem pairs_ne {ps:List (Co×Value)} (h:ps.Pairwise fun x y=>refOf x≠refOf y):(ps.map (·.1)).Pairwise fun a b=>(a.p,a.q)≠(b.p,b.q):=by
 rw[List.pairwise_map]
 exact h
set_option maxRecDepth 20000 in
set_option maxHeartbeats 4000000 in
theorem putAll_own (B lo n c lo1 hi1:Nat) (a:Option Addr) (cs:List Co) (kv:Nat→Value) (ps0:List (Co×Value)) (v:World) (hn:n≤500) (hl0:ps0.length≤500) (hL:cs.length=n) (hO:COwn v lo1 hi1 (.slice a n c) n (fun j=>cs.getD j C0) kv) (hok:∀c∈cs,coinR c=0) (hap:(ps0.map (·.1)++cs).Pairwise (fun a b=>(a.p,a.q)≠(b.p,b.q))) (hlo:lo≤v.heap.size) (hP:Pu v lo B ps0):
 Calls Tryz.prog 57 #[.map (some B),.slice a n c] v fun e w'=>e= .returned (.tuple #[])∧Hid (∃ps,Pu w' lo B ps∧ps.map (·.1)=ps0.map (·.1)++cs)∧Chg v w' B (B+1):=by
 have HO:Hid (COwn v lo1 hi1 (.slice a n c) n (fun j=>cs.getD j C0) kv):=hO
 have HN:Hid (cs.length=n):=hL
 have HOK:Hid (∀c∈cs,coinR c=0):=hok
 have HAP:Hid ((ps0.map (·.1)++cs).Pairwise (fun a b=>(a.p,a.q)≠(b.p,b.q))):=hap
 have HPV:Hid (Pu v lo B ps0):=hP
 have HLB:=hP.lt
 clear hO hok hap hP hL
 go_enter Tryz.func57,Tryz.ntmps57
 go_wp2
 go_loopw [8] (fun i wr=>∃j:Nat,j≤n∧i= .int .i64 j∧Hid (∃ps,Pu wr lo B ps∧ps.map (·.1)=ps0.map (·.1)++cs.take j)∧Hid (Chg v wr B (B+1))) (fun i _=>n-(intOf i).toNat)
 case atStart=>exact ⟨0,Nat.zero_le _,rfl,⟨ps0,HPV.out,by simp⟩,Chg.refl _ _ _⟩
 case round=>
  obtain ⟨j,hj,rfl,HP,HCH⟩:=hrel
  by_cases hlt:j<n
  ·have hO:=HO.out.turn HPV.out.isMap HCH.out
   obtain ⟨g,ug,eg⟩:∃g ug,(Value.slice a n c)= .slice (some ⟨g,0,none⟩) n ug:=by
    obtain ⟨xs,h1,_⟩:=hO.row
    rcases h1.2 with ⟨e1,e2⟩|⟨g,cp,cur,e1,_⟩
    ·omega
    ·exact ⟨g,cp,e1⟩
   cases eg
   obtain ⟨ps,hPu,hps⟩:=HP.out
   obtain ⟨o,ho⟩:∃o,o=cs.getD j C0:=⟨_,rfl⟩
   have hmem:o∈cs:=by rw[ho];exact getC_mem (by rw[HN.out];exact hlt)
   obtain ⟨g1,g2,g3,g4⟩:=coin_more (HOK.out o hmem)
   have hrow:=(hO.keys j hlt).1
   obtain ⟨kb,kc,hkv⟩:∃kb kc,kv j= .slice (some ⟨kb,0,none⟩) o.l.length kc:=by
    rcases hrow.2 with ⟨_,e1⟩|⟨g,cp,cur,e1,_⟩
    ·rw[←ho] at e1;omega
    ·rw[←ho] at e1;exact ⟨g,cp,e1⟩
   rw[hkv,←ho] at hrow
   obtain ⟨⟨x0,x1,x2,x3,x4,x5,x6,x7⟩,_⟩:=hO.cells hlt (show cs.getD j C0=o from ho.symm) hkv
   have hfn:=find_none HN.out hlt ho hps HAP.out
   have HNX:Hid (cs.take (j+1)=cs.take j++[o]):=takeC_snoc (by rw[HN.out];exact hlt) ho
   have hpl:ps.length=ps0.length+j:=by
    have:=congrArg List.length hps
    rw[List.length_map,List.length_append,List.length_map,List.length_take] at this
    have:=HN.out
    omega
   obtain ⟨op,oq,ov,ol,ox,oy,oh,om⟩:=o
   simp only at x0 x1 x2 x3 x4 x5 x6 x7 hrow g1 g2 g3 g4 hfn
   have hbx:Below wr.heap.size wr (wr.alloc (.cells #[.int .i64 op,.int .i64 oq,.int .i64 ov,.slice (some ⟨kb,0,none⟩) ol.length kc,.int .i64 ox,.int .i64 oy,.int .i64 oh,.bool om] 54)):=below_box _
   have hvs:=HCH.out.size
   have hput:=put_any B lo kb 0 kc ps op oq ov ol ox oy oh om (wr.alloc (.cells #[.int .i64 op,.int .i64 oq,.int .i64 ov,.slice (some ⟨kb,0,none⟩) ol.length kc,.int .i64 ox,.int .i64 oy,.int .i64 oh,.bool om] 54)) (hPu.below hbx) (Nat.le_trans hlo (Nat.le_trans hvs hbx.size)) (by omega) ((IAt.owned hrow rfl).below hbx (Nat.le_refl _)) (WalkArith.wf_i64 (by omega)) (WalkArith.wf_i64 (by omega)) hfn (by omega)
   have HPS:Hid (ps.map (·.1)=ps0.map (·.1)++cs.take j):=hps
   have HCX:Hid (Chg v (wr.alloc (.cells #[.int .i64 op,.int .i64 oq,.int .i64 ov,.slice (some ⟨kb,0,none⟩) ol.length kc,.int .i64 ox,.int .i64 oy,.int .i64 oh,.bool om] 54)) B (B+1)):=HCH.out.trans (Chg.of_below hbx _ _)
   obtain ⟨⟨t0,t1,t2,t3,t4,t5,t6,t7⟩,_⟩:=cells8 (heap_alloc_new wr (.cells #[.int .i64 op,.int .i64 oq,.int .i64 ov,.slice (some ⟨kb,0,none⟩) ol.length kc,.int .i64 ox,.int .i64 oy,.int .i64 oh,.bool om] 54))
   clear ho hmem g1 g2 g3 g4 hfn hPu hps hbx hO hrow hkv
   have hki:(j:Int)<(n:Int):=by omega
   go_wp2_with (first
    |(go_at_call 78;(with_reducible refine hput.mono ?_);clear hput;rintro e w3 ⟨rfl,HPU,hch⟩;have HC3:Hid (Chg v w3 B (B+1)):=HCX.out.trans hch;clear hch))
   go_roundw
   case rel=>
    obtain ⟨u,hu⟩:=HPU.out
    exact ⟨j+1,by omega,by go_num,⟨_,hu,by rw[List.map_append,HPS.out,HNX.out,List.append_assoc];rfl⟩,HC3.out⟩
   case measure=>simp[intOf];omega
  ·have e1:cs.take j=cs:=List.take_of_length_le (by rw[HN.out];omega)
   go_wp2
   go_end0
   obtain ⟨ps,h1,h2⟩:=HP.out
   exact ⟨rfl,⟨ps,h1,by rw[h2,e1]⟩,HCH.out⟩
def SpendO (w w':World) (e:Ending) (lo B:Nat) (u:Int) (cs ts zs:List Co):Prop:=
 Chg w w' B (B+1)∧((u≠0∧e= .returned (.tuple #[.slice none 0 0,.int .i64 u])∧∃ps',Holds w' lo B ps' cs)∨(u=0∧∃va vc,e= .returned (.tuple #[.slice va ts.length vc,.int .i64 0])∧(∃lo1 kv,w.heap.size≤lo1∧COwn w' lo1 w'.heap.size (.slice va ts.length vc) ts.length (fun j=>ts.getD j C0) kv)∧∃ps',Holds w' lo B ps' zs))
theorem holds_put {w:World} {lo B:Nat} {ps ps':List (Co×Value)} {cs:List Co} {id h:Int} {os:List Ou} (hr:RiseC cs) (hm:∀c,c∈cs↔c∈ps.map (·.1)) (hk:∀c∈cs,coinR c=0) (h40:cs.length+os.length≤40) (hT:hasT cs id=false) (hou:∀o∈os,1≤o.l.length∧o.l.length≤3) (hP:Pu w lo B ps') (hps:ps'.map (·.1)=ps.map (·.1)++newCs id h false os os.length):Holds w lo B ps' (addCs cs (newCs id h false os os.length)):=by
 refine ⟨hP,addCs_rise hr (new_apart hr hT),fun c=> ?_,fun c hc=> ?_,?_⟩
 ·rw[addCs_mem,hps,List.mem_append,List.mem_append,hm c]
 ·rw[addCs_mem,List.mem_append] at hc
  rcases hc with hc|hc
  ·have:=(coin_more (hk c hc)).2.2.2;omega
  ·unfold newCs at hc
   obtain ⟨j,hj,rfl⟩:=List.mem_map.1 hc
   have hjl:=List.mem_range.1 hj
   have:=(hou (os.getD j O0) (by rw[List.getD,List.getElem?_eq_getElem hjl];exact List.getElem_mem _)).2
   show (os.getD j O0).l.length≤1048576
   omega
 ·rw[addCs_count]
  simp[newCs]
  omega
theorem puts_outs2 {n:Nat} {ti:Bool} {t h:Int} {os:List Ou} (e:putsR n ti t os h=0):∀o∈os,1≤o.l.length∧o.l.length≤3:=by
 unfold putsR at e
 by_cases h1:putFR t os h≠0
 ·rw[if_pos h1] at e;exact absurd e h1
 ·have h2:putFR t os h=0:=by simpa using h1
  unfold putFR at h2
  by_cases q1:inB t 1 60=false∨inB h 0 999=false
  ·rw[if_pos q1] at h2;cases h2
  ·rw[if_neg q1] at h2
   by_cases q3:4<os.length
   ·rw[if_pos q3] at h2;cases h2
   ·rw[if_neg q3] at h2
    exact outs_more h2
set_option maxRecDepth 20000 in
set_option maxHeartbeats 4000000 in
theorem spend_any (B lo:Nat) (ps:List (Co×Value)) (cs:List Co) (n c m d:Nat) (ia oa:Option Addr) (k f:Int) (rs:List (Int×Int)) (os:List Ou) (id h:Int) (w:World) (hg:w.cell? ⟨1,0,none⟩=some (.iface 224 (.agg #[.pointer (some ⟨8,90,none⟩)]))) (hH:Holds w lo B ps cs) (hok:∀c∈cs,coinR c=0) (h40:cs.length≤40) (hlo:lo≤w.heap.size)
 (hn:n≤1048576) (hm:m≤1048576) (hc1:n≤c) (hc2:c≤maxLen) (hk:∀j,j<m→(os.getD j O0).l.length≤1048576) (hT:TxAt w ia n oa m rs os):
 Calls Tryz.prog 41 #[.map (some B),.agg #[.int .i64 k,.int .i64 f,.slice ia n c,.slice oa m d],.int .i64 id,.int .i64 h] w fun e w'=>SpendO w w' e lo B (spendF cs k f rs os id h) cs (inC cs rs) (addCs (outC2 cs rs) (newCs id h false os os.length)):=by
 have HB0:Hid (TBx w (w.alloc (.cells #[.int .i64 k,.int .i64 f,.slice ia n c,.slice oa m d] 32)) k f ia n c oa m d 32):=TBx.start
 have hF:=iTxFault_any n c m d ia oa k f rs os (w.alloc (.cells #[.int .i64 k,.int .i64 f,.slice ia n c,.slice oa m d] 32)) hn hm hc1 hc2 hk (hT.below HB0.out.bel (Nat.le_refl _))
 obtain ⟨p0,p1,p2,p3,_⟩:=cells4 HB0.out.box
 have HHO:Hid (Holds w lo B ps cs):=hH
 have hBl:=hH.pu.lt
 unfold spendF
 by_cases h2:txR k f rs os=0
 ·simp only[h2,ne_eq,not_true_eq_false,if_false]
  rw[h2] at hF
  obtain ⟨hrb,hrd,hr4,ho4⟩:=tx_facts h2
  rw[hT.r.1] at hr4
  have hsb:∀v,Below w.heap.size w v→Calls Tryz.prog 34 #[.map (some B),.agg #[.int .i64 k,.int .i64 f,.slice ia n c,.slice oa m d]] v fun e w'=>SpB v w' e (rs.all (hasC cs)) (inC cs rs):=fun v hv=>
   spentBy_any B lo ps cs n c m d ia oa k f rs v (hH.below hv) (fun c hc=>(coin_more (hok c hc)).2.2.1) (by omega) hrb hrd (hT.r.below hv (Nat.le_refl _))
  obtain ⟨ts,hts⟩:∃x,x=inC cs rs:=⟨_,rfl⟩
  obtain ⟨jb,hjb⟩:∃b,b=rs.all (hasC cs):=⟨_,rfl⟩
  rw[←hts,←hjb] at hsb
  rw[←hjb]
  cases jb
  ·rw[if_pos rfl,←hts]
   have HSP:∀v,Below w.heap.size w v→Calls Tryz.prog 34 #[.map (some B),.agg #[.int .i64 k,.int .i64 f,.slice ia n c,.slice oa m d]] v fun e w'=>Below v.heap.size v w'∧e= .returned (.tuple #[.slice none 0 0,.iface 141 (.agg #[.string ⟨#[97,32,99,111,105,110]⟩,.int .i64 4])]):=fun v hv=>(hsb v hv).mono fun e w' q=>by
    rcases q.2 with ⟨_,q1⟩|⟨q1,_⟩
    ·exact ⟨q.1,q1⟩
    ·cases q1
   have HMC:∀v,TBx w v k f ia n c oa m d 32→Calls Tryz.prog 35 #[.iface 141 (.agg #[.string ⟨#[97,32,99,111,105,110]⟩,.int .i64 4])] v fun e w'=>e= .returned (.int .i64 4)∧Below v.heap.size v w':=fun v hv=>missing_hit _ _ v ((hv.bel.cell (p:=⟨1,0,none⟩) (block_lt_of_cell hg)).trans hg)
   clear hsb hts hjb hg hT hk hok hH h2 hrb hrd
   go_enter Tryz.func41,Tryz.ntmps41
   go_wp2_with (first
    |(go_at_call 33;(with_reducible refine hF.mono ?_);clear hF;rintro e w2 ⟨rfl,hb2⟩;have HW2:Hid (TBx w w2 k f ia n c oa m d 32):=HB0.out.step hb2;clear hb2 p0 p1 p2 p3;obtain ⟨p0,p1,p2,p3,_⟩:=cells4 HW2.out.box;have hsp:=HSP w2 HW2.out.bel)
    |(go_at_call 34;(with_reducible refine hsp.mono ?_);clear hsp;rintro e w3 ⟨hb3,rfl⟩;have HW3:Hid (TBx w w3 k f ia n c oa m d 32):=HW2.out.step hb3;clear hb3;have hmc:=HMC w3 HW3.out)
    |(go_at_call 35;(with_reducible refine hmc.mono ?_);clear hmc;rintro e w4 ⟨rfl,hb4⟩;have HW4:Hid (TBx w w4 k f ia n c oa m d 32):=HW3.out.step hb4;clear hb4))
   refine bodyPost_ret (v:= .tuple #[.slice none 0 0,.int .i64 4]) (by simp[results,Tryz.results41,go_sem]) rfl ?_
   exact ⟨Chg.of_below HW4.out.bel _ _,.inl ⟨by decide,rfl,_,HHO.out.below HW4.out.bel⟩⟩
  ·rw[if_neg (by simp),←hts]
   have HSP:∀v,Below w.heap.size w v→Calls Tryz.prog 34 #[.map (some B),.agg #[.int .i64 k,.int .i64 f,.slice ia n c,.slice oa m d]] v fun e w'=>Below v.heap.size v w'∧∃va vc,e= .returned (.tuple #[.slice va ts.length vc,.nilIface])∧Hid (∃kv,COwn w' v.heap.size w'.heap.size (.slice va ts.length vc) ts.length (fun j=>ts.getD j C0) kv):=fun v hv=>(hsb v hv).mono fun e w' q=>by
    rcases q.2 with ⟨q1,_⟩|⟨_,va,vc,q1,q2⟩
    ·cases q1
    ·exact ⟨q.1,va,vc,q1,q2⟩
   have hti:txIn ps id=hasT cs id:=by rw[←hasT_map];exact (hasT_mem hH.mem id).symm
   obtain ⟨hb,hhb⟩:∃b,b=hasT cs id:=⟨_,rfl⟩
   have HHT:∀v,Below w.heap.size w v→Calls Tryz.prog 92 #[.map (some B),.int .i64 id] v fun e w'=>e= .returned (.bool hb)∧Below v.heap.size v w':=fun v hv=>by
    have:=hasTx_any B lo id ps v (hH.pu.below hv)
    rw[hti,←hhb] at this
    exact this
   rw[←hhb]
   cases hb
   ·rw[if_neg (by simp)]
    have HNO:Hid (hasT cs id=false):=hhb.symm
    have HG:Hid (TxAt w ia n oa m rs os):=hT
    have HN:Hid (rs.length=n):=hT.r.1
    have HK:Hid (∀j,j<m→(os.getD j O0).l.length≤1048576):=hk
    have HRB:Hid (∀r∈rs,refB r=true):=hrb
    have HRD:Hid (rs.Nodup):=hrd
    have HAL:Hid (rs.all (hasC cs)=true):=hjb.symm
    have HTS:Hid (ts=inC cs rs):=hts
    have HOK:Hid (∀c∈cs,coinR c=0):=hok
    have hT4:ts.length≤40:=by rw[hts];exact Nat.le_trans (List.length_filter_le _ _) h40
    obtain ⟨pc,hpc⟩:∃x,x=putsR (outC2 cs rs).length false id os h:=⟨_,rfl⟩
    have HPC:Hid (putsR (outC2 cs rs).length false id os h=pc):=hpc.symm
    rw[←hpc]
    clear hsb hts hjb hg hT hk hok hH h2 hrb hrd hti hhb
    by_cases h0:pc=0
    ·subst h0
     clear hpc
     go_enter Tryz.func41,Tryz.ntmps41
     go_wp2_with (first
      |(go_at_call 33;(with_reducible refine hF.mono ?_);clear hF;rintro e w2 ⟨rfl,hb2⟩;have HW2:Hid (TBx w w2 k f ia n c oa m d 32):=HB0.out.step hb2;clear hb2 p0 p1 p2 p3;obtain ⟨p0,p1,p2,p3,_⟩:=cells4 HW2.out.box;have hsp:=HSP w2 HW2.out.bel)
      |(go_at_call 34;(with_reducible refine hsp.mono ?_);clear hsp;rintro e w3 ⟨hb3,va,vc,rfl,HO3⟩;have HW3:Hid (TBx w w3 k f ia n c oa m d 32):=HW2.out.step hb3;clear hb3;have hht:=HHT w3 HW3.out.bel)
      |(go_at_call 92;(with_reducible refine hht.mono ?_);clear hht;rintro e w4 ⟨rfl,hb4⟩;have HW4:Hid (TBx w w4 k f ia n c oa m d 32):=HW3.out.step hb4;have HO4:=own_step HO3 hb4;clear hb4 p0 p1 p2 p3;obtain ⟨p0,p1,p2,p3,_⟩:=cells4 HW4.out.box))
     have HP4:Hid (Pu w4 lo B ps):=HHO.out.pu.below HW4.out.bel
     have HG4:Hid (TxAt w4 ia n oa m rs os):=HG.out.below HW4.out.bel (Nat.le_refl _)
     have hs4:=HW4.out.bel.size
     have hs2:=HW2.out.bel.size
     go_loopw [37] (fun i wr=>∃j:Nat,j≤n∧i= .int .i64 j∧Hid (∃us,SkM w4 wr lo B cs rs j us)) (fun i _=>n-(intOf i).toNat)
     case atStart=>exact ⟨0,Nat.zero_le _,rfl,ps,HP4.out,fun c=>by rw[←HHO.out.mem c];simp,Chg.refl _ _ _⟩
     case round=>
      obtain ⟨j,hj,rfl,HU⟩:=hrel
      obtain ⟨us,hU⟩:=HU.out
      have hws:=hU.chg.size
      clear p0 p1 p2 p3
      by_cases hlt:j<n
      ·rcases (HG4.out.r.turn HP4.out.isMap hU.chg).2 with h0|⟨b,off,e0,l0,d0⟩
       ·omega
       subst e0
       obtain ⟨o,ho⟩:∃o,o=rs.getD j G0:=⟨_,rfl⟩
       obtain ⟨x0,x1⟩:=d0 j hlt
       rw[←ho] at x0 x1
       have hwf:=ref_wf (HRB.out _ (ref_mem HN.out hlt ho))
       obtain ⟨x,hx⟩:=hU.find HAL.out HN.out hlt ho HRD.out
       have HUT:Hid (SkM w4 wr lo B cs rs j us):=hU
       have HO1:Hid (o=rs.getD j G0):=ho
       obtain ⟨op,oq⟩:=o
       simp only at x0 x1 hwf
       have hbx5:Below wr.heap.size wr (wr.alloc (.cells #[.int .i64 op,.int .i64 oq] 47)):=below_box _
       have ht:=take_any B lo op oq us x (wr.alloc (.cells #[.int .i64 op,.int .i64 oq] 47)) (hU.pu.below hbx5) hx hwf.1 hwf.2
       have HC5:Hid (Chg wr (wr.alloc (.cells #[.int .i64 op,.int .i64 oq] 47)) B (B+1)):=Chg.of_below hbx5 _ _
       obtain ⟨t0,t1⟩:=cells2 (heap_alloc_new wr (.cells #[.int .i64 op,.int .i64 oq] 47))
       have hki:(j:Int)<(n:Int):=by omega
       clear hU hx hwf ho hbx5 HU d0
       go_wp2_with (first
        |(go_at_call 93;(with_reducible refine ht.mono ?_);clear ht;rintro e w6 ⟨rfl,HPU,HCH⟩))
       go_roundw
       case rel=>exact ⟨j+1,by omega,by go_num,_,HUT.out.step HN.out hlt HO1.out HPU.out (HC5.out.trans HCH.out)⟩
       case measure=>simp[intOf];omega
      ·have hmem:=hU.all (by rw[HN.out];omega)
       have hri:RiseC (outC2 cs rs):=HHO.out.rise.filter _
       have hol:(outC2 cs rs).length≤40:=Nat.le_trans (List.length_filter_le _ _) h40
       have hul:=len_mem hU.pu.refs hri hmem
       have hut:txIn us id=false:=by rw[←hasT_map,←hasT_mem hmem id];exact rest_no HNO.out
       have hpo0:=putOuts_any B lo id h false m d oa os us wr hU.pu (by omega) (by omega) hm HK.out (HG4.out.o.turn HP4.out.isMap hU.chg)
       have HMEM:Hid (∀c,c∈outC2 cs rs↔c∈us.map (·.1)):=hmem
       have HUW:Hid (SkM w4 wr lo B cs rs j us):=hU
       have HBXW:Hid (wr.heap[w.heap.size]? =some (.cells #[.int .i64 k,.int .i64 f,.slice ia n c,.slice oa m d] 32 (0,0))):=hU.chg.keep HW4.out.box (by omega)
       obtain ⟨p0,p1,p2,p3,_⟩:=cells4 HBXW.out
       have hki:¬(j:Int)<(n:Int):=by omega
       obtain ⟨kv,hO4⟩:=HO4.out
       have HOW:Hid (COwn wr w2.heap.size w4.heap.size (.slice va ts.length vc) ts.length (fun j=>ts.getD j C0) kv):=hO4.turn HP4.out.isMap hU.chg
       have hpo:Calls Tryz.prog 94 #[.map (some B),.int .i64 id,.slice oa m d,.int .i64 h,.bool false] wr fun e w'=>e= .returned (.int .i64 0)∧Hid (Chg wr w' B (B+1))∧Hid (∃ps',Holds w' lo B ps' (addCs (outC2 cs rs) (newCs id h false os os.length))):=hpo0.mono fun e w' q=>by
        obtain ⟨q1,q2,q3,_⟩:=q
        rw[hul,hut,HPC.out] at q1 q3
        obtain ⟨ps',r1,r2⟩:=q3 rfl
        exact ⟨q1,q2,ps',holds_put hri HMEM.out (fun c hc=>HOK.out c (List.mem_filter.1 hc).1) (puts_taken HPC.out).2 (rest_no HNO.out) (puts_outs2 HPC.out) r1 r2⟩
       clear hpo0 hmem hri hol hul hut hU HU hO4
       go_wp2_with (first
        |(go_at_call 94;(with_reducible refine hpo.mono ?_);clear hpo;rintro e w7 ⟨rfl,HCH,HHD⟩))
       refine bodyPost_ret (v:= .tuple #[.slice va ts.length vc,.int .i64 0]) (by simp[results,Tryz.results41,go_sem]) rfl ?_
       exact ⟨(Chg.of_below HW4.out.bel _ _).trans (HUW.out.chg.trans HCH.out),.inr ⟨rfl,va,vc,rfl,⟨w2.heap.size,kv,hs2,(HOW.out.turn HUW.out.pu.isMap HCH.out).mono (by have:=HCH.out.size;omega)⟩,HHD.out⟩⟩
    ·clear hpc
     go_enter Tryz.func41,Tryz.ntmps41
     go_wp2_with (first
      |(go_at_call 33;(with_reducible refine hF.mono ?_);clear hF;rintro e w2 ⟨rfl,hb2⟩;have HW2:Hid (TBx w w2 k f ia n c oa m d 32):=HB0.out.step hb2;clear hb2 p0 p1 p2 p3;obtain ⟨p0,p1,p2,p3,_⟩:=cells4 HW2.out.box;have hsp:=HSP w2 HW2.out.bel)
      |(go_at_call 34;(with_reducible refine hsp.mono ?_);clear hsp;rintro e w3 ⟨hb3,va,vc,rfl,HO3⟩;have HW3:Hid (TBx w w3 k f ia n c oa m d 32):=HW2.out.step hb3;clear hb3;have hht:=HHT w3 HW3.out.bel)
      |(go_at_call 92;(with_reducible refine hht.mono ?_);clear hht;rintro e w4 ⟨rfl,hb4⟩;have HW4:Hid (TBx w w4 k f ia n c oa m d 32):=HW3.out.step hb4;have HO4:=own_step HO3 hb4;clear hb4 p0 p1 p2 p3;obtain ⟨p0,p1,p2,p3,_⟩:=cells4 HW4.out.box))
     have HP4:Hid (Pu w4 lo B ps):=HHO.out.pu.below HW4.out.bel
     have HG4:Hid (TxAt w4 ia n oa m rs os):=HG.out.below HW4.out.bel (Nat.le_refl _)
     have hs4:=HW4.out.bel.size
     have hs2:=HW2.out.bel.size
     go_loopw [37] (fun i wr=>∃j:Nat,j≤n∧i= .int .i64 j∧Hid (∃us,SkM w4 wr lo B cs rs j us)) (fun i _=>n-(intOf i).toNat)
     case atStart=>exact ⟨0,Nat.zero_le _,rfl,ps,HP4.out,fun c=>by rw[←HHO.out.mem c];simp,Chg.refl _ _ _⟩
     case round=>
      obtain ⟨j,hj,rfl,HU⟩:=hrel
      obtain ⟨us,hU⟩:=HU.out
      have hws:=hU.chg.size
      clear p0 p1 p2 p3
      by_cases hlt:j<n
      ·rcases (HG4.out.r.turn HP4.out.isMap hU.chg).2 with h0|⟨b,off,e0,l0,d0⟩
       ·omega
       subst e0
       obtain ⟨o,ho⟩:∃o,o=rs.getD j G0:=⟨_,rfl⟩
       obtain ⟨x0,x1⟩:=d0 j hlt
       rw[←ho] at x0 x1
       have hwf:=ref_wf (HRB.out _ (ref_mem HN.out hlt ho))
       obtain ⟨x,hx⟩:=hU.find HAL.out HN.out hlt ho HRD.out
       have HUT:Hid (SkM w4 wr lo B cs rs j us):=hU
       have HO1:Hid (o=rs.getD j G0):=ho
       obtain ⟨op,oq⟩:=o
       simp only at x0 x1 hwf
       have hbx5:Below wr.heap.size wr (wr.alloc (.cells #[.int .i64 op,.int .i64 oq] 47)):=below_box _
       have ht:=take_any B lo op oq us x (wr.alloc (.cells #[.int .i64 op,.int .i64 oq] 47)) (hU.pu.below hbx5) hx hwf.1 hwf.2
       have HC5:Hid (Chg wr (wr.alloc (.cells #[.int .i64 op,.int .i64 oq] 47)) B (B+1)):=Chg.of_below hbx5 _ _
       obtain ⟨t0,t1⟩:=cells2 (heap_alloc_new wr (.cells #[.int .i64 op,.int .i64 oq] 47))
       have hki:(j:Int)<(n:Int):=by omega
       clear hU hx hwf ho hbx5 HU d0
       go_wp2_with (first
        |(go_at_call 93;(with_reducible refine ht.mono ?_);clear ht;rintro e w6 ⟨rfl,HPU,HCH⟩))
       go_roundw
       case rel=>exact ⟨j+1,by omega,by go_num,_,HUT.out.step HN.out hlt HO1.out HPU.out (HC5.out.trans HCH.out)⟩
       case measure=>simp[intOf];omega
      ·have hmem:=hU.all (by rw[HN.out];omega)
       have hri:RiseC (outC2 cs rs):=HHO.out.rise.filter _
       have hol:(outC2 cs rs).length≤40:=Nat.le_trans (List.length_filter_le _ _) h40
       have hul:=len_mem hU.pu.refs hri hmem
       have hut:txIn us id=false:=by rw[←hasT_map,←hasT_mem hmem id];exact rest_no HNO.out
       have hpo0:=putOuts_any B lo id h false m d oa os us wr hU.pu (by omega) (by omega) hm HK.out (HG4.out.o.turn HP4.out.isMap hU.chg)
       have HMEM:Hid (∀c,c∈outC2 cs rs↔c∈us.map (·.1)):=hmem
       have HUW:Hid (SkM w4 wr lo B cs rs j us):=hU
       have HBXW:Hid (wr.heap[w.heap.size]? =some (.cells #[.int .i64 k,.int .i64 f,.slice ia n c,.slice oa m d] 32 (0,0))):=hU.chg.keep HW4.out.box (by omega)
       obtain ⟨p0,p1,p2,p3,_⟩:=cells4 HBXW.out
       have hki:¬(j:Int)<(n:Int):=by omega
       obtain ⟨kv,hO4⟩:=HO4.out
       have HOW:Hid (COwn wr w2.heap.size w4.heap.size (.slice va ts.length vc) ts.length (fun j=>ts.getD j C0) kv):=hO4.turn HP4.out.isMap hU.chg
       have hpo:Calls Tryz.prog 94 #[.map (some B),.int .i64 id,.slice oa m d,.int .i64 h,.bool false] wr fun e w'=>e= .returned (.int .i64 pc)∧Hid (Below wr.heap.size wr w'):=hpo0.mono fun e w' q=>by
        obtain ⟨q1,_,_,q4⟩:=q
        rw[hul,hut,HPC.out] at q1 q4
        exact ⟨q1,q4 h0⟩
       have HPA:∀v,Below wr.heap.size wr v→Calls Tryz.prog 57 #[.map (some B),.slice va ts.length vc] v fun e w'=>e= .returned (.tuple #[])∧Hid (Chg v w' B (B+1))∧Hid (∃ps',Holds w' lo B ps' cs):=fun v hv=>
        (putAll_own B lo ts.length vc w2.heap.size w4.heap.size va ts kv us v (by omega) (by omega) rfl (HOW.out.below hv) (fun c hc=>HOK.out c (by rw[HTS.out] at hc;exact (List.mem_filter.1 hc).1)) (by rw[HTS.out];exact rest_apart HHO.out.rise (pairs_ne HUW.out.pu.refs) HMEM.out) (by have:=hv.size;omega) (HUW.out.pu.below hv)).mono fun e w' ⟨e1,H2,h3⟩=>by
         obtain ⟨ps',r1,r2⟩:=H2.out
         refine ⟨e1,h3,ps',r1,HHO.out.rise,fun c=> ?_,HHO.out.good,HHO.out.few⟩
         rw[r2,List.mem_append,←HMEM.out c,HTS.out]
         exact rest_split c
       clear hpo0 hmem hri hol hul hut hU HU hO4
       go_wp2_with (first
        |(go_at_call 94;(with_reducible refine hpo.mono ?_);clear hpo;rintro e w7 ⟨rfl,HB7⟩;have hpa:=HPA w7 HB7.out;clear p0 p1 p2 p3)
        |(go_at_call 57;(with_reducible refine hpa.mono ?_);clear hpa;rintro e w8 ⟨rfl,HCH,HHD⟩))
       refine bodyPost_ret (v:= .tuple #[.slice none 0 0,.int .i64 pc]) (by simp[results,Tryz.results41,go_sem]) rfl ?_
       exact ⟨(Chg.of_below HW4.out.bel _ _).trans (HUW.out.chg.trans ((Chg.of_below HB7.out _ _).trans HCH.out)),.inl ⟨h0,rfl,HHD.out⟩⟩
   ·rw[if_pos rfl]
    clear hsb hts hjb hg hT hk hok hH h2 hrb hrd hti hhb
    go_enter Tryz.func41,Tryz.ntmps41
    go_wp2_with (first
     |(go_at_call 33;(with_reducible refine hF.mono ?_);clear hF;rintro e w2 ⟨rfl,hb2⟩;have HW2:Hid (TBx w w2 k f ia n c oa m d 32):=HB0.out.step hb2;clear hb2 p0 p1 p2 p3;obtain ⟨p0,p1,p2,p3,_⟩:=cells4 HW2.out.box;have hsp:=HSP w2 HW2.out.bel)
     |(go_at_call 34;(with_reducible refine hsp.mono ?_);clear hsp;rintro e w3 ⟨hb3,va,vc,rfl,HO3⟩;have HW3:Hid (TBx w w3 k f ia n c oa m d 32):=HW2.out.step hb3;clear hb3;have hht:=HHT w3 HW3.out.bel)
     |(go_at_call 92;(with_reducible refine hht.mono ?_);clear hht;rintro e w4 ⟨rfl,hb4⟩;have HW4:Hid (TBx w w4 k f ia n c oa m d 32):=HW3.out.step hb4;clear hb4))
    refine bodyPost_ret (v:= .tuple #[.slice none 0 0,.int .i64 7]) (by simp[results,Tryz.results41,go_sem]) rfl ?_
    exact ⟨Chg.of_below HW4.out.bel _ _,.inl ⟨by decide,rfl,_,HHO.out.below HW4.out.bel⟩⟩
 ·simp only[ne_eq,h2,not_false_eq_true,if_true]
  obtain ⟨cd,hcd⟩:∃r,r=txR k f rs os:=⟨_,rfl⟩
  rw[←hcd] at h2 hF ⊢
  clear hcd hg hT hk hok hH
  go_enter Tryz.func41,Tryz.ntmps41
  go_wp2_with (first
   |(go_at_call 33;(with_reducible refine hF.mono ?_);clear hF;rintro e w2 ⟨rfl,hb2⟩;have HW2:Hid (TBx w w2 k f ia n c oa m d 32):=HB0.out.step hb2;clear hb2 p0 p1 p2 p3))
  refine bodyPost_ret (v:= .tuple #[.slice none 0 0,.int .i64 cd]) (by simp[results,Tryz.results41,go_sem]) rfl ?_
  exact ⟨Chg.of_below HW2.out.bel _ _,.inl ⟨h2,rfl,_,HHO.out.below HW2.out.bel⟩⟩
end Go.Proofs.YtagokfoimokniaaGreatDoor
