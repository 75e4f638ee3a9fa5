/- A ledger that comes in as a law's argument, read as data, gives its texts and its signatures. The law on TxFault answers true, whatever transaction comes in, and writes nothing that was there: where the program's TxFault keeps its contract. The program's fault of a transaction: kinds, refs, outs. The program's fault of a transaction: its parts and the whole. The program's TxFault keeps its contract. The program's order of refs: two numbers compared, the first that is not 0, two refs compared. The program's purse: a map from refs to coins, each with keys of its own. The program fills its purse with coins. The specification's text of a rule. The specification's text of a rule, the whole. The specification's text of a transaction: blanks swapped for underscores. The specification's text of a transaction, the whole. -/
import Derived.Test.YtagokfoimokniaaGreatDoorRows
import Derived.Test.YtagokfoimokniaaGreatDoorJn1
import Derived.ProofKit
import Derived.OpenShut
import Derived.ShutString
import Derived.ChangeOld
import Derived.SliceStrings
import Derived.Deep.SlicePairs
import Derived.Test.YtagokfoimokniaaGreatDoorJn2
import Derived.Deep.Slices
import Derived.Maps.OwnSet
import Derived.Maps.Range
import Derived.Lib.ItoaMem
import Derived.Lib.ItoaNum
import Derived.Laws.BytesArg
import Derived.Deep.RegionWith
import Derived.Lib.ConvBytes
namespace Go.Proofs.YtagokfoimokniaaGreatDoor
open Go.ChangeShapes Go.WideShapes Go.ChangeAt Go.RowKit Go.Joins Go.Deep
open Go.ChangeMaps (open_string shut_string)

theorem Tryz.own : ownKnob Tryz.prog.godebug = none := by kernel_rfl
section
variable {H : Type} {enc : TypeId × Value → H} {W : World} {base : Nat} {spare : Nat → Bool} {held : Bool}

theorem add_none (b off j : Nat) : (⟨b, off, none⟩ : Addr).add j = ⟨b, off + j, none⟩ := by
  simp only [Addr.add]
  split
  · simp_all
  · rfl
end

end Go.Proofs.YtagokfoimokniaaGreatDoor

namespace Go.Proofs.YtagokfoimokniaaGreatDoor
open Go.RowKit Go.Maps Go.WideMaps

/-- A transaction in a block of its own, all old memory below as it was. -/
structure TBx (w v : World) (k f : Int) (ia : Option Addr) (n c : Nat) (oa : Option Addr) (m d : Nat) (t : TypeId) : Prop where
  box : v.heap[w.heap.size]? = some (.cells #[.int .i64 k, .int .i64 f, .slice ia n c, .slice oa m d] t (0, 0))
  bel : Below w.heap.size w v
section
variable {w v v' : World} {k f : Int} {ia oa : Option Addr} {n c m d : Nat} {t : TypeId} {rs : List (Int × Int)} {os : List Ou}
theorem TBx.start : TBx w (w.alloc (.cells #[.int .i64 k, .int .i64 f, .slice ia n c, .slice oa m d] t)) k f ia n c oa m d t := ⟨heap_alloc_new _ _, below_box _⟩
theorem TBx.step (h : TBx w v k f ia n c oa m d t) (hb : Below v.heap.size v v') : TBx w v' k f ia n c oa m d t := ⟨(keepb h.box hb).out, h.bel.trans (hb.mono h.bel.size)⟩
theorem TBx.at (h : TBx w v k f ia n c oa m d t) (hI : TxAt w ia n oa m rs os) : TxAt v ia n oa m rs os := hI.below h.bel (Nat.le_refl _)
theorem TBx.lt (h : TBx w v k f ia n c oa m d t) : w.heap.size < v.heap.size := lt_of_block h.box
end
end Go.Proofs.YtagokfoimokniaaGreatDoor

namespace Go.Proofs.YtagokfoimokniaaGreatDoor
open Go.RowKit Go.Maps Go.WideMaps
theorem isKind_any (v:Int) (w:World):Calls Tryz.prog 120 #[.int .i64 v] w fun e w'=>e= .returned (.bool (inB v 0 2))∧w'=w:=by
 go_enter Tryz.func120,Tryz.ntmps120
 go_wp2_with (go_at_call 87;refine (isWithin_any _ _ _ _).mono ?_;rintro e w' ⟨rfl,rfl⟩)
 go_ret
 exact ⟨rfl,rfl⟩
theorem isValue_any (v:Int) (w:World):Calls Tryz.prog 123 #[.int .i64 v] w fun e w'=>e= .returned (.bool (inB v 1 1000000))∧w'=w:=by
 go_enter Tryz.func123,Tryz.ntmps123
 go_wp2_with (go_at_call 87;refine (isWithin_any _ _ _ _).mono ?_;rintro e w' ⟨rfl,rfl⟩)
 go_ret
 exact ⟨rfl,rfl⟩
theorem arePieces_any (n:Nat) (w:World):Calls Tryz.prog 75 #[.int .i64 n] w fun e w'=>e= .returned (.bool (inB n 1 4))∧w'=w:=by
 go_enter Tryz.func75,Tryz.ntmps75
 go_wp2_with (go_at_call 87;refine (isWithin_any _ _ _ _).mono ?_;rintro e w' ⟨rfl,rfl⟩)
 go_ret
 exact ⟨rfl,rfl⟩
def memK (k:Int):Bool:=decide (k=1∨k=2)
theorem hasMember_any (k:Int) (w:World):Calls Tryz.prog 83 #[.int .i64 k] w fun e w'=>e= .returned (.bool (memK k))∧w'=w:=by
 by_cases h1:k=1
 ·subst h1
  go_enter Tryz.func83,Tryz.ntmps83
  go_wp2
  go_ret
  exact ⟨rfl,rfl⟩
 ·have b1:(k==1)=false:=by simpa using h1
  by_cases h2:k=2
  ·subst h2
   go_enter Tryz.func83,Tryz.ntmps83
   go_wp2
   go_ret
   exact ⟨rfl,rfl⟩
  ·have b2:(k==2)=false:=by simpa using h2
   have e:memK k=false:=by simp[memK,h1,h2]
   rw[e]
   go_enter Tryz.func83,Tryz.ntmps83
   go_wp2
   go_ret
   exact ⟨rfl,rfl⟩
theorem isTxId_any (v:Int) (w:World):Calls Tryz.prog 150 #[.int .i64 v] w fun e w'=>e= .returned (.bool (inB v 1 60))∧w'=w:=by
 go_enter Tryz.func150,Tryz.ntmps150
 go_wp2_with (go_at_call 87;refine (isWithin_any _ _ _ _).mono ?_;rintro e w' ⟨rfl,rfl⟩)
 go_ret
 exact ⟨rfl,rfl⟩
theorem isRef_any (a b:Int) (w:World):Calls Tryz.prog 121 #[.agg #[.int .i64 a,.int .i64 b]] w fun e w'=>e= .returned (.bool (refB (a,b)))∧Below w.heap.size w w':=by
 obtain ⟨ka,hka⟩:∃k,k=inB a 1 60:=⟨_,rfl⟩
 obtain ⟨kb,hkb⟩:∃k,k=inB b 0 3:=⟨_,rfl⟩
 have hr:refB (a,b)=(ka&&kb):=by rw[hka,hkb];rfl
 have h1:∀v,Calls Tryz.prog 150 #[.int .i64 a] v fun e w'=>e= .returned (.bool ka)∧w'=v:=fun v=>by rw[hka];exact isTxId_any _ v
 have h2:∀v,Calls Tryz.prog 87 #[.int .i64 b,.int .i64 0,.int .i64 3] v fun e w'=>e= .returned (.bool kb)∧w'=v:=fun v=>by rw[hkb];exact isWithin_any _ _ _ v
 rw[hr]
 clear hka hkb hr
 have hbx:Below w.heap.size w (w.alloc (.cells #[.int .i64 a,.int .i64 b] 47)):=below_box _
 cases ka<;>cases kb
 all_goals
  go_enter Tryz.func121,Tryz.ntmps121
  go_wp2_with (first|(go_at_call 150;refine (h1 _).mono ?_;rintro e w' ⟨rfl,hw⟩;have hw2:=hw.symm;subst hw2)|(go_at_call 87;refine (h2 _).mono ?_;rintro e w' ⟨rfl,hw⟩;have hw2:=hw.symm;subst hw2))
  go_ret
  exact ⟨rfl,hbx⟩
set_option maxHeartbeats 400000 in
theorem rIndex_any (a:Option Addr) (n cap:Nat) (gs:List (Int×Int)) (p q:Int) (w:World) (hl:n≤maxLen) (hs:GAt w a n gs):
 Calls Tryz.prog 151 #[.slice a n cap,.agg #[.int .i64 p,.int .i64 q]] w fun e w'=>∃i:Int,e= .returned (.int .i64 i)∧Hid (memB gs (p,q)=decide (0≤i))∧Below w.heap.size w w':=by
 unfold maxLen at hl
 obtain ⟨hn,hs⟩:=hs
 rcases hs with rfl|⟨b,off,rfl,hb,hc⟩
 ·obtain rfl:gs=[]:=List.length_eq_zero_iff.1 hn
  go_enter Tryz.func151,Tryz.ntmps151
  go_wp2
  refine wp_loop_rounds 1 ?_
  rw[rounds_succ]
  go_wp2
  go_ret
  exact ⟨-1,rfl,rfl,(Below.refl _ _).alloc (Nat.le_refl _) _⟩
 ·have HN:Hid (gs.length=n):=hn
  clear hn
  go_enter Tryz.func151,Tryz.ntmps151
  go_wp2
  go_loopw [8] (fun i wr=>∃k:Nat,k≤n∧i= .int .i64 k∧Hid ((p,q)∉gs.take k)∧wr.cell? ⟨w.heap.size,0,none⟩=some (.int .i64 p)∧wr.cell? ⟨w.heap.size,1,none⟩=some (.int .i64 q)∧Below w.heap.size w wr) (fun i _=>n-(intOf i).toNat)
  case atStart=>exact ⟨0,Nat.zero_le _,rfl,by show (p,q)∉_;simp,by simp,by simp,(Below.refl _ _).alloc (Nat.le_refl _) _⟩
  case round=>
   obtain ⟨k,hk,rfl,hj,hp,hq,hbel⟩:=hrel
   by_cases hlt:k<n
   ·obtain ⟨g,hg⟩:∃g,g=gs.getD k G0:=⟨_,rfl⟩
    have hcx:=hc k hlt
    rw[←hg] at hcx
    obtain ⟨g1,g2⟩:=g
    have c0:=(hbel.cell (p:=⟨b,off+k*2,none⟩) hb).trans hcx.1
    have c1:=(hbel.cell (p:=⟨b,off+k*2+1,none⟩) hb).trans hcx.2
    have HG:Hid ((g1,g2)=gs.getD k G0):=hg
    clear hg hc hcx
    have hki:(k:Int)<(n:Int):=by omega
    by_cases h1:p=g1
    ·have e1:(p==g1)=true:=by simp[h1]
     have H1:Hid (p=g1):=h1
     clear h1
     by_cases h2:q=g2
     ·have e2:(q==g2)=true:=by simp[h2]
      have H2:Hid (q=g2):=h2
      clear h2
      go_wp2
      go_quiet (fail)
      go_wp2
      go_ret
      refine ⟨_,rfl,?_,hbel.trans (Joins.below_draws _ _ _)⟩
      have hm:memB gs (p,q)=true:=by
       unfold memB
       rw[num_hit gs (p,q) G0 k (by rw[HN.out];exact hlt) (by rw[←HG.out,H1.out,H2.out]) hj.out]
       simp
      show _=_
      rw[hm];simp
     ·have e2:(q==g2)=false:=by simp[h2]
      have H2:Hid (¬(g1,g2)=(p,q)):=fun e=>h2 (by simpa using (congrArg Prod.snd e).symm)
      clear h2
      go_wp2
      go_quiet (fail)
      go_wp2
      go_roundw
      case rel=>exact ⟨k+1,by omega,by go_num,signed_more HN.out hlt hj.out HG.out H2.out,by simpa using hp,by simpa using hq,hbel.trans (Joins.below_draws _ _ _)⟩
      case measure=>simp[intOf];omega
    ·have e1:(p==g1)=false:=by simp[h1]
     have H2:Hid (¬(g1,g2)=(p,q)):=fun e=>h1 (by simpa using (congrArg Prod.fst e).symm)
     clear h1
     go_wp2
     go_quiet (fail)
     go_wp2
     go_roundw
     case rel=>exact ⟨k+1,by omega,by go_num,signed_more HN.out hlt hj.out HG.out H2.out,by simpa using hp,by simpa using hq,hbel.trans (Joins.below_draws _ _ _)⟩
     case measure=>simp[intOf];omega
   ·go_wp2
    go_ret
    refine ⟨_,rfl,?_,hbel⟩
    have hm:memB gs (p,q)=false:=by
     unfold memB
     rw[(num_zero gs (p,q)).2 (by have:=hj.out;rwa [List.take_of_length_le (by rw[HN.out];omega)] at this)]
     rfl
    show _=_
    rw[hm];rfl
theorem rContains_any (a:Option Addr) (n cap:Nat) (gs:List (Int×Int)) (p q:Int) (w:World) (hl:n≤maxLen) (hs:GAt w a n gs):
 Calls Tryz.prog 122 #[.slice a n cap,.agg #[.int .i64 p,.int .i64 q]] w fun e w'=>e= .returned (.bool (memB gs (p,q)))∧Below w.heap.size w w':=by
 have hbx:Below w.heap.size w (w.alloc (.cells #[.int .i64 p,.int .i64 q] 47)):=below_box _
 have hI:=rIndex_any a n cap gs p q (w.alloc (.cells #[.int .i64 p,.int .i64 q] 47)) hl (hs.below hbx (Nat.le_refl _))
 clear hs
 go_enter Tryz.func122,Tryz.ntmps122
 go_wp2_with (go_at_call 151;refine hI.mono ?_;rintro e w2 ⟨i,rfl,HM,hb2⟩)
 go_ret
 refine ⟨?_,hbx.trans (hb2.mono (by simp))⟩
 rw[HM.out];rfl
end Go.Proofs.YtagokfoimokniaaGreatDoor
namespace Go.Proofs.YtagokfoimokniaaGreatDoor
open Go.RowKit Go.Maps Go.WideMaps
set_option maxRecDepth 20000 in
set_option maxHeartbeats 1000000 in
theorem refsFault_any (n c:Nat) (ia:Option Addr) (rs:List (Int×Int)) (w:World) (hc1:n≤c) (hc2:c≤maxLen) (h:GAt w ia n rs):
 Calls Tryz.prog 76 #[.slice ia n c] w fun e w'=>e= .returned (.int .i64 (refsR [] rs))∧Below w.heap.size w w':=by
 unfold maxLen at hc2
 have HR:Hid (GAt w ia n rs):=h
 have HN:Hid (rs.length=n):=h.1
 obtain ⟨r,hr⟩:∃r,r=refsR [] rs:=⟨_,rfl⟩
 rw[←hr]
 have HV:Hid (r=refsR [] rs):=hr
 clear h hr
 go_enter Tryz.func76,Tryz.ntmps76
 go_wp2
 go_loopw [7] (fun i wr=>∃j:Nat,j≤n∧i= .int .i64 j∧Below w.heap.size w wr∧Hid (refsR [] rs=refsR (rs.take j) (rs.drop j))) (fun i _=>n-(intOf i).toNat)
 case atStart=>exact ⟨0,Nat.zero_le _,rfl,Below.refl _ _,by show _=_;simp⟩
 case round=>
  obtain ⟨j,hj,rfl,hbel,HT⟩:=hrel
  by_cases hlt:j<n
  ·rcases HR.out.2 with h0|⟨b,off,ha,hb,hc⟩
   ·omega
   subst ha
   obtain ⟨g,hg⟩:∃g,g=rs.getD j G0:=⟨_,rfl⟩
   have hcx:=hc j hlt
   rw[←hg] at hcx
   obtain ⟨g1,g2⟩:=g
   have c0:=(hbel.cell (p:=⟨b,off+j*2,none⟩) hb).trans hcx.1
   have c1:=(hbel.cell (p:=⟨b,off+j*2+1,none⟩) hb).trans hcx.2
   have HG:Hid ((g1,g2)=rs.getD j G0):=hg
   have hki:(j:Int)<(n:Int):=by omega
   have hkc:(j:Int)≤(c:Int):=by omega
   have hkm:j≤maxLen:=by unfold maxLen;omega
   obtain ⟨kr,hkr⟩:∃b,b=refB (g1,g2):=⟨_,rfl⟩
   have hrf:=isRef_any g1 g2 (wr.alloc (.cells #[.int .i64 g1,.int .i64 g2] 47))
   rw[←hkr] at hrf
   have HKR:Hid (kr=refB (g1,g2)):=hkr
   have HBX:Hid (Below wr.heap.size wr (wr.alloc (.cells #[.int .i64 g1,.int .i64 g2] 47))):=below_box _
   have HX:Hid ((wr.alloc (.cells #[.int .i64 g1,.int .i64 g2] 47)).heap[wr.heap.size]? =some (.cells #[.int .i64 g1,.int .i64 g2] 47 (0,0))):=heap_alloc_new _ _
   clear hg hc hcx hkr
   cases kr
   ·obtain rfl:r=3:=by rw[HV.out];exact refs_bad HN.out hlt HG.out HT.out HKR.out.symm
    go_wp2_with (first|(go_at_call 121;refine hrf.mono ?_;rintro e w2 ⟨rfl,hb2⟩))
    go_ret
    exact ⟨rfl,(hbel.trans (HBX.out.mono hbel.size)).trans (hb2.mono (by have:=hbel.size;simp;omega))⟩
   ·obtain ⟨mb,hmb⟩:∃b,b=memB (rs.take j) (g1,g2):=⟨_,rfl⟩
    have HMB:Hid (memB (rs.take j) (g1,g2)=mb):=hmb.symm
    clear hmb
    go_wp2_with (first|(go_at_call 121;refine hrf.mono ?_;rintro e w2 ⟨rfl,hb2⟩;have hbw:Below w.heap.size w w2:=(hbel.trans (HBX.out.mono hbel.size)).trans (hb2.mono (by have:=hbel.size;simp;omega));obtain ⟨x0,x1⟩:=cells2 (keepb HX.out hb2).out;have hlx:=lt_of_block (keepb HX.out hb2).out;clear hb2))
    have ham:Calls Tryz.prog 122 #[.slice (some ⟨b,off,none⟩) j c,.agg #[.int .i64 g1,.int .i64 g2]] w2.drew fun e w'=>e= .returned (.bool mb)∧Below w2.heap.size w2 w':=by
     have:=rContains_any (some ⟨b,off,none⟩) j c (rs.take j) g1 g2 w2.drew hkm (((HR.out.below hbw (Nat.le_refl _)).take hj).below (Below.refl _ _).drew (Nat.le_refl _))
     rw[HMB.out] at this
     exact this.mono fun e w' h=>⟨h.1,(Below.refl _ _).drew.trans h.2⟩
    go_region_held3 (fun w'=>w'.cell? ⟨wr.heap.size,0,none⟩=some (.int .i64 g1)∧w'.cell? ⟨wr.heap.size,1,none⟩=some (.int .i64 g2)) (go_keep)
     (first|(go_at_call 122;refine ham.mono ?_;rintro e w3 ⟨rfl,hb3⟩;have q1:=(hb3.cell (p:=⟨wr.heap.size,0,none⟩) hlx).trans x0;have q2:=(hb3.cell (p:=⟨wr.heap.size,1,none⟩) hlx).trans x1))
    cases mb
    ·go_wp2
     go_roundw
     case rel=>exact ⟨j+1,by omega,by go_num,hbw.trans (hb3.mono hbw.size),refs_go HN.out hlt HG.out HT.out HKR.out.symm HMB.out⟩
     case measure=>simp[intOf];omega
    ·obtain rfl:r=7:=by rw[HV.out];exact refs_taken HN.out hlt HG.out HT.out HKR.out.symm HMB.out
     go_wp2
     go_ret
     exact ⟨rfl,hbw.trans (hb3.mono hbw.size)⟩
  ·obtain rfl:r=0:=by rw[HV.out];exact refs_done HN.out hlt HT.out
   go_wp2
   go_ret
   exact ⟨rfl,hbel⟩
set_option maxHeartbeats 1000000 in
theorem outsFault_any (m d:Nat) (oa:Option Addr) (os:List Ou) (w:World) (hm:m≤1048576) (hk:∀j,j<m→(os.getD j O0).l.length≤1048576) (hO:OAt w oa m os):
 Calls Tryz.prog 77 #[.slice oa m d] w fun e w'=>e= .returned (.int .i64 (outsR os))∧Below w.heap.size w w':=by
 have HO:Hid (OAt w oa m os):=hO
 have HN:Hid (os.length=m):=hO.1
 have HKL:Hid (∀j,j<m→(os.getD j O0).l.length≤1048576):=hk
 obtain ⟨r,hr⟩:∃r,r=outsR os:=⟨_,rfl⟩
 rw[←hr]
 have HR:Hid (r=outsR os):=hr
 clear hO hk hr
 go_enter Tryz.func77,Tryz.ntmps77
 go_wp2
 go_loopw [8] (fun i wr=>∃j:Nat,j≤m∧i= .int .i64 j∧Below w.heap.size w wr∧Hid (outsR os=outsR (os.drop j))) (fun i _=>m-(intOf i).toNat)
 case atStart=>exact ⟨0,Nat.zero_le _,rfl,Below.refl _ _,by show _=_;simp⟩
 case round=>
  obtain ⟨j,hj,rfl,hbel,HT⟩:=hrel
  by_cases hlt:j<m
  ·rcases HO.out.2 with h0|⟨b,off,e0,l0,d0⟩
   ·omega
   subst e0
   obtain ⟨o,ho⟩:∃o,o=os.getD j O0:=⟨_,rfl⟩
   obtain ⟨ka,kn,kc,p0,p1,p2,p3,p4,p5⟩:=d0 j hlt
   have hol:=HKL.out j hlt
   rw[←ho] at p0 p2 p3 p5 hol
   have HS:Hid (o=os.getD j O0):=ho
   obtain ⟨ov,ol,ox,oy⟩:=o
   obtain rfl:=p5.1
   have x0:=(hbel.cell (p:=⟨b,off+j*4,none⟩) l0).trans p0
   have x1:=(hbel.cell (p:=⟨b,off+j*4+1,none⟩) l0).trans p1
   have x2:=(hbel.cell (p:=⟨b,off+j*4+2,none⟩) l0).trans p2
   have x3:=(hbel.cell (p:=⟨b,off+j*4+3,none⟩) l0).trans p3
   simp only at x0 x2 x3
   obtain ⟨cd,hcd⟩:∃c,c=ruleR ol ox oy:=⟨_,rfl⟩
   have hbx:Below wr.heap.size wr (wr.alloc (.cells #[.int .i64 ov,.slice ka ol.length kc,.int .i64 ox,.int .i64 oy] 52)):=below_box _
   have hlf:=iRuleFault_any ol.length kc ka ol ox oy (wr.alloc (.cells #[.int .i64 ov,.slice ka ol.length kc,.int .i64 ox,.int .i64 oy] 52)) hol ((p5.below hbel (Nat.le_refl _)).below hbx (Nat.le_refl _))
   rw[←hcd] at hlf
   have HBX:Hid (Below wr.heap.size wr (wr.alloc (.cells #[.int .i64 ov,.slice ka ol.length kc,.int .i64 ox,.int .i64 oy] 52))):=hbx
   have HCD:Hid (cd=ruleR ol ox oy):=hcd
   obtain ⟨kv,hkv⟩:∃k,k=inB ov 1 1000000:=⟨_,rfl⟩
   have hin:∀v,Calls Tryz.prog 123 #[.int .i64 ov] v fun e w'=>e= .returned (.bool kv)∧w'=v:=fun v=>by rw[hkv];exact isValue_any _ v
   have HKV:Hid (kv=inB ov 1 1000000):=hkv
   have HNX:Hid (os.drop j=(⟨ov,ol,ox,oy⟩:Ou)::os.drop (j+1)):=drop_next HN.out hlt HS.out
   clear ho d0 p0 p1 p2 p3 p4 p5 hol hcd hkv hbx
   have hki:(j:Int)<(m:Int):=by omega
   cases kv
   ·obtain rfl:r=3:=by rw[HR.out,HT.out,HNX.out,outsR,if_pos HKV.out.symm]
    go_wp2_with (go_at_call 123;refine (hin _).mono ?_;rintro e w' ⟨rfl,hw⟩;have hw2:=hw.symm;subst hw2)
    go_ret
    exact ⟨rfl,hbel.trans (HBX.out.mono hbel.size)⟩
   ·by_cases hc0:cd=0
    ·have HTN:Hid (outsR os=outsR (os.drop (j+1))):=by
      show _=_
      rw[HT.out,HNX.out,outsR,if_neg (by rw[←HKV.out];simp),if_neg (by rw[←HCD.out,hc0];simp)]
     go_wp2_with (first|(go_at_call 123;refine (hin _).mono ?_;rintro e w' ⟨rfl,hw⟩;have hw2:=hw.symm;subst hw2)|(go_at_call 88;refine hlf.mono ?_;rintro e w3 ⟨rfl,hb3⟩))
     go_roundw
     case rel=>exact ⟨j+1,by omega,by go_num,(hbel.trans (HBX.out.mono hbel.size)).trans (hb3.mono (by have:=hbel.size;simp;omega)),HTN⟩
     case measure=>simp[intOf];omega
    ·have e1:outsR os=cd:=by rw[HT.out,HNX.out,outsR,if_neg (by rw[←HKV.out];simp),if_pos (by rw[←HCD.out];exact hc0),←HCD.out]
     obtain rfl:r=cd:=by rw[HR.out,e1]
     clear e1
     go_wp2_with (first|(go_at_call 123;refine (hin _).mono ?_;rintro e w' ⟨rfl,hw⟩;have hw2:=hw.symm;subst hw2)|(go_at_call 88;refine hlf.mono ?_;rintro e w3 ⟨rfl,hb3⟩))
     go_ret
     exact ⟨rfl,(hbel.trans (HBX.out.mono hbel.size)).trans (hb3.mono (by have:=hbel.size;simp;omega))⟩
  ·obtain rfl:r=0:=by rw[HR.out,HT.out];exact drop_none HN.out hlt
   go_wp2
   go_ret
   exact ⟨rfl,hbel⟩
def kindR (k f:Int):Int:=if inB k 0 2=false∨¬(k=0↔f=0) then 1 else if k≠0∧inB f 1 999=false then 3 else 0
set_option maxRecDepth 20000 in
set_option maxHeartbeats 1000000 in
theorem kindFault_any (k f:Int) (v2 v3:Value) (w:World):
 Calls Tryz.prog 74 #[.agg #[.int .i64 k,.int .i64 f,v2,v3]] w fun e w'=>e= .returned (.int .i64 (kindR k f))∧Below w.heap.size w w':=by
 have hbx:Below w.heap.size w (w.alloc (.cells #[.int .i64 k,.int .i64 f,v2,v3] 32)):=below_box _
 obtain ⟨kb,hkb⟩:∃b,b=inB k 0 2:=⟨_,rfl⟩
 obtain ⟨mk,hmk⟩:∃b,b=memK k:=⟨_,rfl⟩
 obtain ⟨fk,hfk⟩:∃b,b=inB f 1 999:=⟨_,rfl⟩
 have hK:∀v,Calls Tryz.prog 120 #[.int .i64 k] v fun e w'=>e= .returned (.bool kb)∧w'=v:=fun v=>by rw[hkb];exact isKind_any _ v
 have hM:∀v,Calls Tryz.prog 83 #[.int .i64 k] v fun e w'=>e= .returned (.bool mk)∧w'=v:=fun v=>by rw[hmk];exact hasMember_any _ v
 have hF:∀v,Calls Tryz.prog 110 #[.int .i64 f] v fun e w'=>e= .returned (.bool fk)∧w'=v:=fun v=>by rw[hfk];exact isKey_any _ v
 have HKB:Hid (kb=inB k 0 2):=hkb
 have HMK:Hid (mk=memK k):=hmk
 have HFK:Hid (fk=inB f 1 999):=hfk
 obtain ⟨r,hr⟩:∃r,r=kindR k f:=⟨_,rfl⟩
 rw[←hr]
 have HR:Hid (r=kindR k f):=hr
 clear hkb hmk hfk hr
 have HBX:Hid (Below w.heap.size w (w.alloc (.cells #[.int .i64 k,.int .i64 f,v2,v3] 32))):=hbx
 clear hbx
 have hmem:kb=true→(mk=false↔k=0):=by
  intro h
  have h1:=inB_true.1 (HKB.out.symm.trans h)
  rw[HMK.out]
  unfold memK
  rw[decide_eq_false_iff_not]
  omega
 cases kb
 ·obtain rfl:r=1:=by rw[HR.out];unfold kindR;rw[if_pos (.inl HKB.out.symm)]
  clear hmem
  go_enter Tryz.func74,Tryz.ntmps74
  go_wp2
  go_quiet (first|(go_at_call 120;refine Calls.quiet_of_same (hK _)))
  go_wp2
  go_ret
  exact ⟨rfl,HBX.out.trans (Joins.below_draws _ _ _)⟩
 have hmem:=hmem rfl
 have HB:Hid (¬inB k 0 2=false):=by show ¬_;rw[←HKB.out];simp
 by_cases hf0:f=0
 ·subst hf0
  cases mk
  ·have hk0:k=0:=hmem.1 rfl
   obtain rfl:r=0:=by rw[HR.out];unfold kindR;rw[if_neg (fun h=>h.elim HB.out (fun h=>h (by simp[hk0]))),if_neg (fun h=>h.1 hk0)]
   subst hk0
   clear hmem
   go_enter Tryz.func74,Tryz.ntmps74
   go_wp2
   go_quiet (first|(go_at_call 120;refine Calls.quiet_of_same (hK _))|(go_at_call 83;refine Calls.quiet_of_same (hM _)))
   go_wp2_with (go_at_call 83;refine (hM _).mono ?_;rintro e w' ⟨rfl,hw⟩;have hw2:=hw.symm;subst hw2)
   go_ret
   exact ⟨rfl,HBX.out.trans (Joins.below_draws _ _ _)⟩
  ·have hk0:¬k=0:=fun e=>by have:=hmem.2 e;cases this
   obtain rfl:r=1:=by rw[HR.out];unfold kindR;rw[if_pos (.inr (fun h=>hk0 (h.2 rfl)))]
   clear hmem hk0
   go_enter Tryz.func74,Tryz.ntmps74
   go_wp2
   go_quiet (first|(go_at_call 120;refine Calls.quiet_of_same (hK _))|(go_at_call 83;refine Calls.quiet_of_same (hM _)))
   go_wp2
   go_ret
   exact ⟨rfl,HBX.out.trans (Joins.below_draws _ _ _)⟩
 ·have hfb:(f != 0)=true:=by simpa using hf0
  have hfe:(f==0)=false:=by simpa using hf0
  cases mk
  ·have hk0:k=0:=hmem.1 rfl
   obtain rfl:r=1:=by rw[HR.out];unfold kindR;rw[if_pos (.inr (fun h=>hf0 (h.1 hk0)))]
   subst hk0
   clear hmem
   go_enter Tryz.func74,Tryz.ntmps74
   go_wp2
   go_quiet (first|(go_at_call 120;refine Calls.quiet_of_same (hK _))|(go_at_call 83;refine Calls.quiet_of_same (hM _)))
   go_wp2
   go_ret
   exact ⟨rfl,HBX.out.trans (Joins.below_draws _ _ _)⟩
  ·have hk0:¬k=0:=fun e=>by have:=hmem.2 e;cases this
   have hrr:r=if fk=false then 3 else 0:=by rw[HR.out,HFK.out];unfold kindR;rw[if_neg (fun h=>h.elim HB.out (fun h=>h ⟨fun e=>absurd e hk0,fun e=>absurd e hf0⟩))];simp[hk0]
   clear hmem hk0
   cases fk
   ·obtain rfl:r=3:=by rw[hrr];rfl
    clear hrr
    go_enter Tryz.func74,Tryz.ntmps74
    go_wp2
    go_quiet (first|(go_at_call 120;refine Calls.quiet_of_same (hK _))|(go_at_call 83;refine Calls.quiet_of_same (hM _)))
    go_wp2_with (first|(go_at_call 83;refine (hM _).mono ?_;rintro e w' ⟨rfl,hw⟩;have hw2:=hw.symm;subst hw2)|(go_at_call 110;refine (hF _).mono ?_;rintro e w' ⟨rfl,hw⟩;have hw2:=hw.symm;subst hw2))
    go_ret
    exact ⟨rfl,HBX.out.trans (Joins.below_draws _ _ _)⟩
   ·obtain rfl:r=0:=by rw[hrr];rfl
    clear hrr
    go_enter Tryz.func74,Tryz.ntmps74
    go_wp2
    go_quiet (first|(go_at_call 120;refine Calls.quiet_of_same (hK _))|(go_at_call 83;refine Calls.quiet_of_same (hM _)))
    go_wp2_with (first|(go_at_call 83;refine (hM _).mono ?_;rintro e w' ⟨rfl,hw⟩;have hw2:=hw.symm;subst hw2)|(go_at_call 110;refine (hF _).mono ?_;rintro e w' ⟨rfl,hw⟩;have hw2:=hw.symm;subst hw2))
    go_ret
    exact ⟨rfl,HBX.out.trans (Joins.below_draws _ _ _)⟩
end Go.Proofs.YtagokfoimokniaaGreatDoor
namespace Go.Proofs.YtagokfoimokniaaGreatDoor
open Go.RowKit Go.Maps Go.WideMaps
theorem txR_eq (k f:Int) (rs:List (Int×Int)) (os:List Ou):txR k f rs os=if kindR k f≠0 then kindR k f else if inB rs.length 1 4=false∨inB os.length 1 4=false then 2 else if refsR [] rs≠0 then refsR [] rs else if outsR os≠0 then outsR os else if k=1∧(os.getD 0 O0).v<100 then 8 else 0:=by
 unfold txR kindR joinR
 by_cases h1:inB k 0 2=false∨¬(k=0↔f=0)
 ·rw[if_pos h1,if_pos h1];rfl
 ·rw[if_neg h1,if_neg h1]
  by_cases h2:k≠0∧inB f 1 999=false
  ·rw[if_pos h2,if_pos h2];rfl
  ·rw[if_neg h2,if_neg h2,if_neg (show ¬(0:Int)≠0 by simp)]
set_option maxRecDepth 20000 in
set_option maxHeartbeats 2000000 in
theorem iTxFault_any (n c m d:Nat) (ia oa:Option Addr) (k f:Int) (rs:List (Int×Int)) (os:List Ou) (w:World) (_hn:n≤1048576) (hm:m≤1048576) (hc1:n≤c) (hc2:c≤maxLen) (hk:∀j,j<m→(os.getD j O0).l.length≤1048576) (h:TxAt w ia n oa m rs os):
 Calls Tryz.prog 33 #[.agg #[.int .i64 k,.int .i64 f,.slice ia n c,.slice oa m d]] w fun e w'=>e= .returned (.int .i64 (txR k f rs os))∧Below w.heap.size w w':=by
 have B0:TBx w (w.alloc (.cells #[.int .i64 k,.int .i64 f,.slice ia n c,.slice oa m d] 32)) k f ia n c oa m d 32:=TBx.start
 have HT:Hid (TxAt w ia n oa m rs os):=h
 have HN:Hid (rs.length=n):=h.r.1
 have HM:Hid (os.length=m):=h.o.1
 have HK:Hid (∀j,j<m→(os.getD j O0).l.length≤1048576):=hk
 have HB0:Hid (TBx w (w.alloc (.cells #[.int .i64 k,.int .i64 f,.slice ia n c,.slice oa m d] 32)) k f ia n c oa m d 32):=B0
 obtain ⟨cd,hcd⟩:∃c,c=txR k f rs os:=⟨_,rfl⟩
 rw[←hcd]
 have HCD:Hid (cd=if kindR k f≠0 then kindR k f else if inB n 1 4=false∨inB m 1 4=false then 2 else if refsR [] rs≠0 then refsR [] rs else if outsR os≠0 then outsR os else if k=1∧(os.getD 0 O0).v<100 then 8 else 0):=by
  show _=_
  rw[hcd,txR_eq,h.r.1,h.o.1]
 obtain ⟨r1,hr1⟩:∃c,c=kindR k f:=⟨_,rfl⟩
 obtain ⟨r2,hr2⟩:∃c,c=refsR [] rs:=⟨_,rfl⟩
 obtain ⟨r3,hr3⟩:∃c,c=outsR os:=⟨_,rfl⟩
 obtain ⟨bn,hbn⟩:∃c,c=inB n 1 4:=⟨_,rfl⟩
 obtain ⟨bm,hbm⟩:∃c,c=inB m 1 4:=⟨_,rfl⟩
 have hk1:=kindFault_any k f (.slice ia n c) (.slice oa m d) (w.alloc (.cells #[.int .i64 k,.int .i64 f,.slice ia n c,.slice oa m d] 32))
 have hrf:∀v,GAt v ia n rs→Calls Tryz.prog 76 #[.slice ia n c] v fun e w'=>e= .returned (.int .i64 r2)∧Below v.heap.size v w':=fun v hv=>by rw[hr2];exact refsFault_any n c ia rs v hc1 hc2 hv
 have hof:∀v,OAt v oa m os→Calls Tryz.prog 77 #[.slice oa m d] v fun e w'=>e= .returned (.int .i64 r3)∧Below v.heap.size v w':=fun v hv=>by rw[hr3];exact outsFault_any m d oa os v hm HK.out hv
 have hp1:∀v,Calls Tryz.prog 75 #[.int .i64 n] v fun e w'=>e= .returned (.bool bn)∧w'=v:=fun v=>by rw[hbn];exact arePieces_any n v
 have hp2:∀v,Calls Tryz.prog 75 #[.int .i64 m] v fun e w'=>e= .returned (.bool bm)∧w'=v:=fun v=>by rw[hbm];exact arePieces_any m v
 have HRF:Hid (∀v,GAt v ia n rs→Calls Tryz.prog 76 #[.slice ia n c] v fun e w'=>e= .returned (.int .i64 r2)∧Below v.heap.size v w'):=hrf
 have HOF:Hid (∀v,OAt v oa m os→Calls Tryz.prog 77 #[.slice oa m d] v fun e w'=>e= .returned (.int .i64 r3)∧Below v.heap.size v w'):=hof
 have HC:=HCD.out
 rw[←hr1,←hr2,←hr3,←hbn,←hbm] at HC
 rw[←hr1] at hk1
 have HBM:Hid (bm=inB m 1 4):=hbm
 have HC2:Hid (cd=if r1≠0 then r1 else if bn=false∨bm=false then 2 else if r2≠0 then r2 else if r3≠0 then r3 else if k=1∧(os.getD 0 O0).v<100 then 8 else 0):=HC
 clear HC HCD h B0 hk hcd hr1 hr2 hr3 hbn hbm hrf hof
 by_cases h1:r1=0
 ·subst h1
  by_cases h2:bn=false
  ·subst h2
   obtain rfl:cd=2:=by rw[HC2.out];simp
   clear hp2
   go_enter Tryz.func33,Tryz.ntmps33
   go_wp2_with (first
    |(go_at_call 74;refine hk1.mono ?_;rintro e w1 ⟨rfl,hb1⟩;have HB1:Hid (TBx w w1 k f ia n c oa m d 32):=HB0.out.step hb1;obtain ⟨p0,p1,p2,p3,_⟩:=cells4 HB1.out.box;clear hb1)
    |(go_at_call 75;refine (hp1 _).mono ?_;rintro e w' ⟨rfl,hw⟩;have hw2:=hw.symm;subst hw2))
   go_ret
   exact ⟨rfl,HB1.out.bel⟩
  obtain rfl:bn=true:=by simpa using h2
  by_cases h3:bm=false
  ·subst h3
   obtain rfl:cd=2:=by rw[HC2.out];simp
   go_enter Tryz.func33,Tryz.ntmps33
   go_wp2_with (first
    |(go_at_call 74;refine hk1.mono ?_;rintro e w1 ⟨rfl,hb1⟩;have HB1:Hid (TBx w w1 k f ia n c oa m d 32):=HB0.out.step hb1;obtain ⟨p0,p1,p2,p3,_⟩:=cells4 HB1.out.box;clear hb1)
    |(go_at_call 75;(first|(refine (hp1 _).mono ?_;clear hp1)|refine (hp2 _).mono ?_);rintro e w' ⟨rfl,hw⟩;have hw2:=hw.symm;subst hw2))
   go_ret
   exact ⟨rfl,HB1.out.bel⟩
  obtain rfl:bm=true:=by simpa using h3
  have hm4:=inB_true.1 HBM.out.symm
  have HC3:Hid (cd=if r2≠0 then r2 else if r3≠0 then r3 else if k=1∧(os.getD 0 O0).v<100 then 8 else 0):=by show _=_;rw[HC2.out];simp
  clear HC2 h2 h3
  by_cases h4:r2=0
  ·subst h4
   by_cases h5:r3=0
   ·subst h5
    have HC4:Hid (cd=if k=1∧(os.getD 0 O0).v<100 then 8 else 0):=by show _=_;rw[HC3.out];simp
    clear HC3
    rcases HT.out.o.2 with h0|⟨b,off,e0,l0,d0⟩
    ·omega
    subst e0
    obtain ⟨ka,kn,kc,q0,_⟩:=d0 0 (by omega)
    simp only[Nat.zero_mul,Nat.add_zero] at q0
    obtain ⟨ov,hov⟩:∃v,v=(os.getD 0 O0).v:=⟨_,rfl⟩
    have HC5:Hid (cd=if k=1∧ov<100 then 8 else 0):=by show _=_;rw[HC4.out,hov]
    rw[←hov] at q0
    clear HC4 hov d0
    have hmi:0<(m:Int):=by omega
    rcases (show (k=1∧ov<100∧cd=8)∨(k=1∧¬ov<100∧cd=0)∨(¬k=1∧(k==1)=false∧cd=0) by
     by_cases g1:k=1
     ·by_cases g2:ov<100
      ·exact .inl ⟨g1,g2,by rw[HC5.out,if_pos ⟨g1,g2⟩]⟩
      ·exact .inr (.inl ⟨g1,g2,by rw[HC5.out,if_neg (fun h=>g2 h.2)]⟩)
     ·exact .inr (.inr ⟨g1,by simpa using g1,by rw[HC5.out,if_neg (fun h=>g1 h.1)]⟩)) with ⟨rfl,g2,rfl⟩|⟨rfl,g2,rfl⟩|⟨g1,g2,rfl⟩
    all_goals
     clear HC5
     go_enter Tryz.func33,Tryz.ntmps33
     go_wp2_with (first
      |(go_at_call 74;refine hk1.mono ?_;rintro e w1 ⟨rfl,hb1⟩;have HB1:Hid (TBx w w1 _ f ia n c (some ⟨b,off,none⟩) m d 32):=HB0.out.step hb1;obtain ⟨p0,p1,p2,p3,_⟩:=cells4 HB1.out.box;clear hb1)
      |(go_at_call 75;(first|(refine (hp1 _).mono ?_;clear hp1)|refine (hp2 _).mono ?_);rintro e w' ⟨rfl,hw⟩;have hw2:=hw.symm;subst hw2)
      |(go_at_call 76;refine (HRF.out _ (HB1.out.at HT.out).r).mono ?_;rintro e w2 ⟨rfl,hb2⟩;have HB2:Hid (TBx w w2 _ f ia n c (some ⟨b,off,none⟩) m d 32):=HB1.out.step hb2;clear p0 p1 p2 p3;obtain ⟨p0,p1,p2,p3,_⟩:=cells4 HB2.out.box;clear hb2)
      |(go_at_call 77;refine (HOF.out _ (HB2.out.at HT.out).o).mono ?_;rintro e w3 ⟨rfl,hb3⟩;have HB3:Hid (TBx w w3 _ f ia n c (some ⟨b,off,none⟩) m d 32):=HB2.out.step hb3;clear p0 p1 p2 p3;obtain ⟨p0,p1,p2,p3,_⟩:=cells4 HB3.out.box;have x0:=(HB3.out.bel.cell (p:=⟨b,off,none⟩) l0).trans q0;clear hb3))
     go_ret
     exact ⟨rfl,HB3.out.bel⟩
   ·obtain rfl:cd=r3:=by rw[HC3.out];simp[h5]
    go_enter Tryz.func33,Tryz.ntmps33
    go_wp2_with (first
     |(go_at_call 74;refine hk1.mono ?_;rintro e w1 ⟨rfl,hb1⟩;have HB1:Hid (TBx w w1 k f ia n c oa m d 32):=HB0.out.step hb1;obtain ⟨p0,p1,p2,p3,_⟩:=cells4 HB1.out.box;clear hb1)
     |(go_at_call 75;(first|(refine (hp1 _).mono ?_;clear hp1)|refine (hp2 _).mono ?_);rintro e w' ⟨rfl,hw⟩;have hw2:=hw.symm;subst hw2)
     |(go_at_call 76;refine (HRF.out _ (HB1.out.at HT.out).r).mono ?_;rintro e w2 ⟨rfl,hb2⟩;have HB2:Hid (TBx w w2 k f ia n c oa m d 32):=HB1.out.step hb2;clear p0 p1 p2 p3;obtain ⟨p0,p1,p2,p3,_⟩:=cells4 HB2.out.box;clear hb2)
     |(go_at_call 77;refine (HOF.out _ (HB2.out.at HT.out).o).mono ?_;rintro e w3 ⟨rfl,hb3⟩;have HB3:Hid (TBx w w3 k f ia n c oa m d 32):=HB2.out.step hb3;clear p0 p1 p2 p3;obtain ⟨p0,p1,p2,p3,_⟩:=cells4 HB3.out.box;clear hb3))
    go_ret
    exact ⟨rfl,HB3.out.bel⟩
  ·obtain rfl:cd=r2:=by rw[HC3.out];simp[h4]
   go_enter Tryz.func33,Tryz.ntmps33
   go_wp2_with (first
    |(go_at_call 74;refine hk1.mono ?_;rintro e w1 ⟨rfl,hb1⟩;have HB1:Hid (TBx w w1 k f ia n c oa m d 32):=HB0.out.step hb1;obtain ⟨p0,p1,p2,p3,_⟩:=cells4 HB1.out.box;clear hb1)
    |(go_at_call 75;(first|(refine (hp1 _).mono ?_;clear hp1)|refine (hp2 _).mono ?_);rintro e w' ⟨rfl,hw⟩;have hw2:=hw.symm;subst hw2)
    |(go_at_call 76;refine (HRF.out _ (HB1.out.at HT.out).r).mono ?_;rintro e w2 ⟨rfl,hb2⟩;have HB2:Hid (TBx w w2 k f ia n c oa m d 32):=HB1.out.step hb2;clear p0 p1 p2 p3;obtain ⟨p0,p1,p2,p3,_⟩:=cells4 HB2.out.box;clear hb2))
   go_ret
   exact ⟨rfl,HB2.out.bel⟩
 ·obtain rfl:cd=r1:=by rw[HC2.out];simp[h1]
  clear hp1 hp2
  go_enter Tryz.func33,Tryz.ntmps33
  go_wp2_with (first
   |(go_at_call 74;refine hk1.mono ?_;rintro e w1 ⟨rfl,hb1⟩;have HB1:Hid (TBx w w1 k f ia n c oa m d 32):=HB0.out.step hb1;obtain ⟨p0,p1,p2,p3,_⟩:=cells4 HB1.out.box;clear hb1))
  go_ret
  exact ⟨rfl,HB1.out.bel⟩
end Go.Proofs.YtagokfoimokniaaGreatDoor

namespace Go.Proofs.YtagokfoimokniaaGreatDoor
open Go.RowKit Go.Maps Go.WideMaps

theorem isNaN_any (v : Int) (w : World) : Calls Tryz.prog 164 #[.int .i64 v] w fun e w' => e = .returned (.bool false) ∧ w' = w := by
  go_enter Tryz.func164, Tryz.ntmps164
  go_wp2
  go_ret
  exact ⟨by simp, rfl⟩

theorem cmpC_any (a b : Int) (w : World) : Calls Tryz.prog 144 #[.int .i64 a, .int .i64 b] w fun e w' => e = .returned (.int .i64 (cmpI a b)) ∧ w' = w := by
  have h0 : ∀ v u, Calls Tryz.prog 164 #[.int .i64 v] u fun e w' => e = .returned (.bool false) ∧ w' = u := isNaN_any
  by_cases h1 : a < b
  · have e : cmpI a b = -1 := by simp [cmpI, h1]
    rw [e]
    go_enter Tryz.func144, Tryz.ntmps144
    go_wp2_with (go_at_call 164; refine (h0 _ _).mono ?_; rintro e w' ⟨rfl, hw⟩; have hw2 := hw.symm; subst hw2)
    go_ret
    exact ⟨rfl, rfl⟩
  · by_cases h2 : b < a
    · have e : cmpI a b = 1 := by simp [cmpI, h1, h2]
      rw [e]
      go_enter Tryz.func144, Tryz.ntmps144
      go_wp2_with (go_at_call 164; refine (h0 _ _).mono ?_; rintro e w' ⟨rfl, hw⟩; have hw2 := hw.symm; subst hw2)
      go_ret
      exact ⟨rfl, rfl⟩
    · have e : cmpI a b = 0 := by simp [cmpI, h1, h2]
      rw [e]
      go_enter Tryz.func144, Tryz.ntmps144
      go_wp2_with (go_at_call 164; refine (h0 _ _).mono ?_; rintro e w' ⟨rfl, hw⟩; have hw2 := hw.symm; subst hw2)
      go_ret
      exact ⟨rfl, rfl⟩

/-- The first of two numbers that is not 0. -/
theorem cmpOr_any (B c : Nat) (a b : Int) (w : World) (h0 : w.cell? ⟨B, 0, none⟩ = some (.int .i64 a)) (h1 : w.cell? ⟨B, 1, none⟩ = some (.int .i64 b)) :
    Calls Tryz.prog 143 #[.slice (some ⟨B, 0, none⟩) 2 c] w fun e w' => e = .returned (.int .i64 (if a = 0 then b else a)) ∧ w' = w := by
  by_cases ha : a = 0
  · subst ha
    by_cases hb : b = 0
    · subst hb
      go_enter Tryz.func143, Tryz.ntmps143
      go_wp2
      refine wp_loop_rounds 3 ?_
      rw [rounds_succ]
      go_wp2
      rw [rounds_succ]
      go_wp2
      rw [rounds_succ]
      go_wp2
      go_ret
      exact ⟨rfl, rfl⟩
    · have e : (b != 0) = true := by simp [hb]
      go_enter Tryz.func143, Tryz.ntmps143
      go_wp2
      refine wp_loop_rounds 2 ?_
      rw [rounds_succ]
      go_wp2
      rw [rounds_succ]
      go_wp2
      go_ret
      exact ⟨rfl, rfl⟩
  · have e : (a != 0) = true := by simp [ha]
    rw [if_neg ha]
    go_enter Tryz.func143, Tryz.ntmps143
    go_wp2
    refine wp_loop_rounds 1 ?_
    rw [rounds_succ]
    go_wp2
    go_ret
    exact ⟨rfl, rfl⟩

set_option maxRecDepth 20000 in
set_option maxHeartbeats 4000000 in
theorem compareRefs_more (a b c d : Int) (w : World) : Calls Tryz.prog 99 #[.agg #[.int .i64 a, .int .i64 b], .agg #[.int .i64 c, .int .i64 d]] w fun e w' => e = .returned (.int .i64 (cmpR (a, b) (c, d))) ∧ Below w.heap.size w w' ∧ w.drawn ≤ w'.drawn := by
  obtain ⟨t0, t1, t2⟩ := blocks2 w (.cells #[.int .i64 a, .int .i64 b] 47) (.cells #[.int .i64 c, .int .i64 d] 47)
  have hbx : Below w.heap.size w ((w.alloc (.cells #[.int .i64 a, .int .i64 b] 47)).alloc (.cells #[.int .i64 c, .int .i64 d] 47)) := below_box2 _ _
  obtain ⟨p, hp⟩ : ∃ p, p = cmpI a c := ⟨_, rfl⟩
  obtain ⟨q, hq⟩ : ∃ q, q = cmpI b d := ⟨_, rfl⟩
  have hr : cmpR (a, b) (c, d) = if p = 0 then q else p := by rw [hp, hq]; rfl
  have h1 : ∀ v, Calls Tryz.prog 144 #[.int .i64 a, .int .i64 c] v fun e w' => e = .returned (.int .i64 p) ∧ w' = v := fun v => by rw [hp]; exact cmpC_any _ _ v
  have h2 : ∀ v, Calls Tryz.prog 144 #[.int .i64 b, .int .i64 d] v fun e w' => e = .returned (.int .i64 q) ∧ w' = v := fun v => by rw [hq]; exact cmpC_any _ _ v
  rw [hr]
  obtain ⟨r, h3⟩ : ∃ r, r = if p = 0 then q else p := ⟨_, rfl⟩
  rw [← h3]
  have H3 : Hid ((if p = 0 then q else p) = r) := h3.symm
  clear hp hq hr h3
  obtain ⟨W, hW⟩ : ∃ W, W = (w.alloc (.cells #[.int .i64 a, .int .i64 b] 47)).alloc (.cells #[.int .i64 c, .int .i64 d] 47) := ⟨_, rfl⟩
  go_enter Tryz.func99, Tryz.ntmps99
  go_wp2
  rw [← hW] at t0 t1 t2 hbx ⊢
  have HDR : Hid (W.drawn = w.drawn) := by rw [hW]; rfl
  clear hW
  obtain ⟨s0, s1⟩ := cells2 t0
  obtain ⟨s2, s3⟩ := cells2 t1
  have hn0 : (W.alloc (.cells #[.int .i64 p, .int .i64 q] 3)).drew.heap[W.heap.size]? = some (.cells #[.int .i64 p, .int .i64 q] 3 (0, 0)) := heap_alloc_new _ _
  have hor := cmpOr_any W.heap.size 2 p q (W.alloc (.cells #[.int .i64 p, .int .i64 q] 3)).drew (cells2 hn0).1 (cells2 hn0).2
  have HBO : Hid (Below w.heap.size w (W.alloc (.cells #[.int .i64 p, .int .i64 q] 3)).drew) := (hbx.trans ((below_box _).mono hbx.size)).trans ((Below.refl _ _).drew)
  clear hn0
  rw [t2, H3.out] at hor
  have hl0 : w.heap.size < W.heap.size := by omega
  have hl1 : w.heap.size + 1 < W.heap.size := by omega
  go_region_held3 (fun w' => w'.cell? ⟨w.heap.size, 0, none⟩ = some (.int .i64 a) ∧ w'.cell? ⟨w.heap.size, 1, none⟩ = some (.int .i64 b) ∧ w'.cell? ⟨w.heap.size + 1, 0, none⟩ = some (.int .i64 c) ∧ w'.cell? ⟨w.heap.size + 1, 1, none⟩ = some (.int .i64 d)) (go_keep)
    (first
      | (go_at_call 144; (first | (with_reducible refine (h1 _).mono ?_) | (with_reducible refine (h2 _).mono ?_)); rintro e w' ⟨rfl, hw⟩; have hw2 := hw.symm; subst hw2)
      | (go_at_call 143; (with_reducible refine hor.mono ?_); rintro e w' ⟨rfl, hw⟩; have hw2 := hw.symm; subst hw2))
  go_wp2
  go_ret
  exact ⟨rfl, HBO.out, by show w.drawn ≤ W.drawn + 1; rw [HDR.out]; omega⟩

theorem compareRefs_any (a b c d : Int) (w : World) : Calls Tryz.prog 99 #[.agg #[.int .i64 a, .int .i64 b], .agg #[.int .i64 c, .int .i64 d]] w fun e w' => e = .returned (.int .i64 (cmpR (a, b) (c, d))) ∧ Below w.heap.size w w' :=
  (compareRefs_more a b c d w).mono fun _ _ h => ⟨h.1, h.2.1⟩

set_option maxHeartbeats 1000000 in
theorem coinFault_any (p q v : Int) (a : Option Addr) (n cap : Nat) (l : List Int) (x y h : Int) (m : Bool) (w : World) (hl : n ≤ 1048576) (hI : IAt w a n l) :
    Calls Tryz.prog 98 #[.agg #[.int .i64 p, .int .i64 q, .int .i64 v, .slice a n cap, .int .i64 x, .int .i64 y, .int .i64 h, .bool m]] w fun e w' => e = .returned (.int .i64 (coinR ⟨p, q, v, l, x, y, h, m⟩)) ∧ Below w.heap.size w w' := by
  obtain ⟨kr, hkr⟩ : ∃ k, k = refB (p, q) := ⟨_, rfl⟩
  obtain ⟨kh, hkh⟩ : ∃ k, k = inB h 0 999 := ⟨_, rfl⟩
  obtain ⟨kv, hkv⟩ : ∃ k, k = inB v 1 1000000 := ⟨_, rfl⟩
  have hrf := isRef_any p q (w.alloc (.cells #[.int .i64 p, .int .i64 q, .int .i64 v, .slice a n cap, .int .i64 x, .int .i64 y, .int .i64 h, .bool m] 54))
  rw [← hkr] at hrf
  have hht : ∀ u, Calls Tryz.prog 39 #[.int .i64 h] u fun e w' => e = .returned (.bool kh) ∧ w' = u := fun u => by rw [hkh]; exact isHeight_any _ u
  have hvl : ∀ u, Calls Tryz.prog 123 #[.int .i64 v] u fun e w' => e = .returned (.bool kv) ∧ w' = u := fun u => by rw [hkv]; exact isValue_any _ u
  have HRF : Hid (∀ u, Below w.heap.size w u → Calls Tryz.prog 88 #[.agg #[.slice a n cap, .int .i64 x, .int .i64 y]] u fun e w' => e = .returned (.int .i64 (ruleR l x y)) ∧ Below u.heap.size u w') := fun u hu => iRuleFault_any n cap a l x y u hl (hI.below hu (Nat.le_refl _))
  have HBX : Hid (Below w.heap.size w (w.alloc (.cells #[.int .i64 p, .int .i64 q, .int .i64 v, .slice a n cap, .int .i64 x, .int .i64 y, .int .i64 h, .bool m] 54))) := below_box _
  have HX : Hid ((w.alloc (.cells #[.int .i64 p, .int .i64 q, .int .i64 v, .slice a n cap, .int .i64 x, .int .i64 y, .int .i64 h, .bool m] 54)).heap[w.heap.size]? = some (.cells #[.int .i64 p, .int .i64 q, .int .i64 v, .slice a n cap, .int .i64 x, .int .i64 y, .int .i64 h, .bool m] 54 (0, 0))) := heap_alloc_new _ _
  obtain ⟨r, hr⟩ : ∃ r, r = coinR ⟨p, q, v, l, x, y, h, m⟩ := ⟨_, rfl⟩
  rw [← hr]
  clear hI
  cases kr
  · obtain rfl : r = 3 := by rw [hr]; unfold coinR; rw [if_pos (.inl hkr.symm)]
    clear hkr hkh hkv hr
    go_enter Tryz.func98, Tryz.ntmps98
    go_wp2_with (first | (go_at_call 121; (with_reducible refine hrf.mono ?_); rintro e w2 ⟨rfl, hb2⟩; have HX2 := keepb HX.out hb2; obtain ⟨⟨s0, s1, s2, s3, s4, s5, s6, s7⟩, _⟩ := cells8 HX2.out; have HB2 : Hid (Below w.heap.size w w2) := HBX.out.trans (hb2.mono HBX.out.size); clear hb2))
    go_ret
    exact ⟨rfl, HB2.out⟩
  cases kh
  · obtain rfl : r = 3 := by rw [hr]; unfold coinR; rw [if_pos (.inr hkh.symm)]
    clear hkr hkh hkv hr
    go_enter Tryz.func98, Tryz.ntmps98
    go_wp2_with (first | (go_at_call 121; (with_reducible refine hrf.mono ?_); rintro e w2 ⟨rfl, hb2⟩; have HX2 := keepb HX.out hb2; obtain ⟨⟨s0, s1, s2, s3, s4, s5, s6, s7⟩, _⟩ := cells8 HX2.out; have HB2 : Hid (Below w.heap.size w w2) := HBX.out.trans (hb2.mono HBX.out.size); clear hb2) | (go_at_call 39; refine (hht _).mono ?_; rintro e w' ⟨rfl, hw⟩; have hw2 := hw.symm; subst hw2))
    go_ret
    exact ⟨rfl, HB2.out⟩
  have hno : ¬ (refB (p, q) = false ∨ inB h 0 999 = false) := by
    rintro (e | e)
    · rw [← hkr] at e; cases e
    · rw [← hkh] at e; cases e
  cases kv
  · obtain rfl : r = 3 := by rw [hr]; unfold coinR; rw [if_neg hno, outR, if_pos hkv.symm]
    clear hkr hkh hkv hr hno
    go_enter Tryz.func98, Tryz.ntmps98
    go_wp2_with (first | (go_at_call 121; (with_reducible refine hrf.mono ?_); rintro e w2 ⟨rfl, hb2⟩; have HX2 := keepb HX.out hb2; obtain ⟨⟨s0, s1, s2, s3, s4, s5, s6, s7⟩, _⟩ := cells8 HX2.out; have HB2 : Hid (Below w.heap.size w w2) := HBX.out.trans (hb2.mono HBX.out.size); clear hb2) | (go_at_call 39; refine (hht _).mono ?_; rintro e w' ⟨rfl, hw⟩; have hw2 := hw.symm; subst hw2) | (go_at_call 123; refine (hvl _).mono ?_; rintro e w' ⟨rfl, hw⟩; have hw2 := hw.symm; subst hw2))
    go_ret
    exact ⟨rfl, HB2.out⟩
  · obtain rfl : r = ruleR l x y := by rw [hr]; unfold coinR; rw [if_neg hno, outR, if_neg (by rw [← hkv]; simp)]
    clear hkr hkh hkv hr hno
    go_enter Tryz.func98, Tryz.ntmps98
    go_wp2_with (first | (go_at_call 121; (with_reducible refine hrf.mono ?_); rintro e w2 ⟨rfl, hb2⟩; have HX2 := keepb HX.out hb2; obtain ⟨⟨s0, s1, s2, s3, s4, s5, s6, s7⟩, _⟩ := cells8 HX2.out; have HB2 : Hid (Below w.heap.size w w2) := HBX.out.trans (hb2.mono HBX.out.size); clear hb2) | (go_at_call 39; refine (hht _).mono ?_; rintro e w' ⟨rfl, hw⟩; have hw2 := hw.symm; subst hw2) | (go_at_call 123; refine (hvl _).mono ?_; rintro e w' ⟨rfl, hw⟩; have hw2 := hw.symm; subst hw2) | (go_at_call 88; refine (HRF.out w2 HB2.out).mono ?_; rintro e w3 ⟨rfl, hb3⟩))
    go_ret
    exact ⟨rfl, HB2.out.trans (hb3.mono HB2.out.size)⟩

/-- The last ref, in its block. -/
def LastR (w wr : World) (pr : Int × Int) : Prop := wr.heap[w.heap.size]? = some (.cells #[.int .i64 pr.1, .int .i64 pr.2] 47 (0, 0))

set_option maxRecDepth 20000 in
set_option maxHeartbeats 2000000 in
theorem iCoinsFault_any (n c : Nat) (a : Option Addr) (cs : List Co) (w : World) (hn : n ≤ 1048576) (hk : ∀ j, j < n → (cs.getD j C0).l.length ≤ 1048576) (hC : CAt w a n cs) :
    Calls Tryz.prog 43 #[.slice a n c] w fun e w' => e = .returned (.int .i64 (coinsR cs)) ∧ Below w.heap.size w w' := by
  have HC : Hid (CAt w a n cs) := hC
  have HN : Hid (cs.length = n) := hC.1
  have HKL : Hid (∀ j, j < n → (cs.getD j C0).l.length ≤ 1048576) := hk
  obtain ⟨r, hr⟩ : ∃ r, r = coinsR cs := ⟨_, rfl⟩
  rw [← hr]
  have HR : Hid (r = coinsR cs) := hr
  clear hC hk hr
  by_cases h40 : 40 < n
  · obtain rfl : r = 2 := by rw [HR.out]; unfold coinsR; rw [if_pos (by rw [HN.out]; exact h40)]
    go_enter Tryz.func43, Tryz.ntmps43
    go_wp2
    go_ret
    exact ⟨rfl, Below.refl _ _⟩
  have HR2 : Hid (r = csR (0, 0) cs) := by show _ = _; rw [HR.out]; unfold coinsR; rw [if_neg (by rw [HN.out]; exact h40)]
  go_enter Tryz.func43, Tryz.ntmps43
  go_wp2
  go_loopw [12] (fun i wr => ∃ j : Nat, j ≤ n ∧ i = .int .i64 j ∧ Below w.heap.size w wr ∧ Hid (r = csR (prevR cs j) (cs.drop j)) ∧ Hid (LastR w wr (prevR cs j))) (fun i _ => n - (intOf i).toNat)
  case atStart => exact ⟨0, Nat.zero_le _, rfl, below_box _, HR2.out, heap_alloc_new _ _⟩
  case round =>
    obtain ⟨j, hj, rfl, hbel, HT, HL⟩ := hrel
    by_cases hlt : j < n
    · rcases HC.out.2 with h0 | ⟨b, off, e0, l0, d0⟩
      · omega
      subst e0
      obtain ⟨o, ho⟩ : ∃ o, o = cs.getD j C0 := ⟨_, rfl⟩
      obtain ⟨ka, kc, p0, p4, p5⟩ := d0 j hlt
      have hol := HKL.out j hlt
      rw [← ho] at p0 p4 p5 hol
      have HS : Hid (o = cs.getD j C0) := ho
      obtain ⟨op, oq, ov, ol, ox, oy, oh, om⟩ := o
      obtain ⟨x0, x1, x2, x3, x4, x5, x6, x7⟩ := p0.below hbel l0
      simp only at x0 x1 x2 x3 x4 x5 x6 x7 hol p5
      have HNX : Hid (cs.drop j = (⟨op, oq, ov, ol, ox, oy, oh, om⟩ : Co) :: cs.drop (j + 1)) := next_coin HN.out hlt HS.out
      have hlL : w.heap.size < wr.heap.size := lt_of_block HL.out
      obtain ⟨pr, hpr⟩ : ∃ pr, pr = prevR cs j := ⟨_, rfl⟩
      have HPR : Hid (prevR cs j = pr) := hpr.symm
      obtain ⟨np, nq⟩ := pr
      have hbx : Below wr.heap.size wr (wr.alloc (.cells #[.int .i64 op, .int .i64 oq, .int .i64 ov, .slice ka ol.length kc, .int .i64 ox, .int .i64 oy, .int .i64 oh, .bool om] 54)) := below_box _
      have hcf := coinFault_any op oq ov ka ol.length kc ol ox oy oh om (wr.alloc (.cells #[.int .i64 op, .int .i64 oq, .int .i64 ov, .slice ka ol.length kc, .int .i64 ox, .int .i64 oy, .int .i64 oh, .bool om] 54)) hol ((p5.below hbel (Nat.le_refl _)).below hbx (Nat.le_refl _))
      obtain ⟨cd, hcd⟩ : ∃ c, c = coinR ⟨op, oq, ov, ol, ox, oy, oh, om⟩ := ⟨_, rfl⟩
      rw [← hcd] at hcf
      have HCE : Hid (coinR ⟨op, oq, ov, ol, ox, oy, oh, om⟩ = cd) := hcd.symm
      have HX : Hid ((wr.alloc (.cells #[.int .i64 op, .int .i64 oq, .int .i64 ov, .slice ka ol.length kc, .int .i64 ox, .int .i64 oy, .int .i64 oh, .bool om] 54)).heap[wr.heap.size]? = some (.cells #[.int .i64 op, .int .i64 oq, .int .i64 ov, .slice ka ol.length kc, .int .i64 ox, .int .i64 oy, .int .i64 oh, .bool om] 54 (0, 0))) := heap_alloc_new _ _
      have HBX : Hid (Below wr.heap.size wr (wr.alloc (.cells #[.int .i64 op, .int .i64 oq, .int .i64 ov, .slice ka ol.length kc, .int .i64 ox, .int .i64 oy, .int .i64 oh, .bool om] 54))) := hbx
      have HL0 : Hid (wr.heap[w.heap.size]? = some (.cells #[.int .i64 np, .int .i64 nq] 47 (0, 0))) := by have := HL.out; unfold LastR at this; rw [HPR.out] at this; exact this
      have HLX := keepb HL0.out HBX.out
      clear ho d0 p0 p4 p5 hcd hbx hpr
      have hki : (j : Int) < (n : Int) := by omega
      by_cases hc0 : cd = 0
      · subst hc0
        obtain ⟨kb, hkb⟩ : ∃ k, k = cmpR (op, oq) (np, nq) := ⟨_, rfl⟩
        have HKB : Hid (cmpR (op, oq) (np, nq) = kb) := hkb.symm
        have hcm : ∀ u, Calls Tryz.prog 99 #[.agg #[.int .i64 op, .int .i64 oq], .agg #[.int .i64 np, .int .i64 nq]] u fun e w' => e = .returned (.int .i64 kb) ∧ Below u.heap.size u w' := fun u => by rw [hkb]; exact compareRefs_any op oq np nq u
        clear hkb
        by_cases hle : kb ≤ 0
        · obtain rfl : r = 1 := by rw [HT.out, HNX.out, HPR.out, csR_form HCE.out (by rw [← HKB.out] at hle; exact hle)]
          go_wp2_with (first
            | (go_at_call 98; (with_reducible refine hcf.mono ?_); clear hcf; rintro e w2 ⟨rfl, hb2⟩; have HX2 := keepb HX.out hb2; have HL2 := keepb HLX.out hb2; obtain ⟨⟨s0, s1, s2, s3, s4, s5, s6, s7⟩, _⟩ := cells8 HX2.out; obtain ⟨y0, y1⟩ := cells2 HL2.out; have HB2 : Hid (Below w.heap.size w w2) := (hbel.trans (HBX.out.mono hbel.size)).trans (hb2.mono (by have := hbel.size; have := HBX.out.size; omega)); clear hb2)
            | (go_at_call 99; (with_reducible refine (hcm _).mono ?_); rintro e w3 ⟨rfl, hb3⟩))
          go_ret
          exact ⟨rfl, HB2.out.trans (hb3.mono HB2.out.size)⟩
        · have HTN : Hid (r = csR (prevR cs (j + 1)) (cs.drop (j + 1))) := by
            show _ = _
            rw [HT.out, HNX.out, HPR.out, csR_go HCE.out (by rw [← HKB.out] at hle; exact hle), prevR_succ HS.out]
          go_wp2_with (first
            | (go_at_call 98; (with_reducible refine hcf.mono ?_); clear hcf; rintro e w2 ⟨rfl, hb2⟩; have HX2 := keepb HX.out hb2; have HL2 := keepb HLX.out hb2; obtain ⟨⟨s0, s1, s2, s3, s4, s5, s6, s7⟩, _⟩ := cells8 HX2.out; obtain ⟨y0, y1⟩ := cells2 HL2.out; have HB2 : Hid (Below w.heap.size w w2) := (hbel.trans (HBX.out.mono hbel.size)).trans (hb2.mono (by have := hbel.size; have := HBX.out.size; omega)); clear hb2)
            | (go_at_call 99; (with_reducible refine (hcm _).mono ?_); rintro e w3 ⟨rfl, hb3⟩; have HX3 := keepb HX2.out hb3; have HL3 := keepb HL2.out hb3; clear s0 s1 s2 s3 s4 s5 s6 s7 y0 y1; obtain ⟨⟨s0, s1, s2, s3, s4, s5, s6, s7⟩, _⟩ := cells8 HX3.out; obtain ⟨y0, y1⟩ := cells2 HL3.out; have f0 := Joins.unfrozen_of_block HL3.out 0; have f1 := Joins.unfrozen_of_block HL3.out 1; have HB3 : Hid (Below w.heap.size w w3) := HB2.out.trans (hb3.mono HB2.out.size); clear hb3))
          go_roundw
          case rel =>
            refine ⟨j + 1, by omega, by go_num, (HB3.out.setCell (Nat.le_refl _) _).setCell (Nat.le_refl _) _, HTN, ?_⟩
            show LastR _ _ _
            rw [prevR_succ HS.out]
            have h1 := Joins.block_setCell (i := 0) HL3.out (.int .i64 op)
            have h2 := Joins.block_setCell (i := 1) h1 (.int .i64 oq)
            exact h2
          case measure => simp [intOf]; omega
      · obtain rfl : r = cd := by rw [HT.out, HNX.out, csR_bad HCE.out hc0]
        go_wp2_with (first
          | (go_at_call 98; (with_reducible refine hcf.mono ?_); clear hcf; rintro e w2 ⟨rfl, hb2⟩; have HB2 : Hid (Below w.heap.size w w2) := (hbel.trans (HBX.out.mono hbel.size)).trans (hb2.mono (by have := hbel.size; have := HBX.out.size; omega)); clear hb2))
        go_ret
        exact ⟨rfl, HB2.out⟩
    · obtain rfl : r = 0 := by rw [HT.out, List.drop_eq_nil_of_le (by rw [HN.out]; omega)]; rfl
      go_wp2
      go_ret
      exact ⟨rfl, hbel⟩

end Go.Proofs.YtagokfoimokniaaGreatDoor

namespace Go.Proofs.YtagokfoimokniaaGreatDoor
open Go.RowKit Go.Maps Go.WideMaps

theorem kR : Keyed Tryz.prog 47 := Keyed.of_law (deep_law_laid Tryz.laidOut (m := 2) (by omega) (of_decide_eq_true (by kernel_rfl)) (by kernel_rfl) (by kernel_rfl))
theorem Tryz.cellsRf : Tryz.prog.cellsOf 47 = 2 := by kernel_rfl
theorem Tryz.cellsI64R : Tryz.prog.cellsOf 2 = 1 := by kernel_rfl
theorem Tryz.someTypesR : ∃ m, Tryz.prog.types.size = m + 1 := ⟨Tryz.prog.types.size - 1, by have : 0 < Tryz.prog.types.size := of_decide_eq_true (by kernel_rfl); omega⟩
theorem Tryz.cutRf : (Tryz.prog.cutTypes.any (·.2 == 47)) = false := by kernel_rfl
theorem Tryz.keyAtRf (m : Nat) : Tryz.prog.keyTypeAt (m + 2) 47 = true := by
  have h2 : Tryz.prog.keyTypeAt (m + 1) 2 = true := by unfold Program.keyTypeAt; rw [Tryz.underlying2]
  unfold Program.keyTypeAt
  rw [Tryz.underlying47]
  simp only [Tryz.cutRf, Tryz.stoodInHeld47]
  simp [h2]
theorem Tryz.keyRf : Tryz.prog.keyType 47 = true := by
  obtain ⟨m, hm⟩ := Tryz.someTypesR
  unfold Program.keyType
  rw [hm]
  exact Tryz.keyAtRf m
theorem Tryz.litI64R (m : Nat) {x : Int} (hx : (Lit.int .i64 x).wf = true) : Tryz.prog.keyLits (m + 1) 2 [.int .i64 x] = some [.int .i64 x] := by
  unfold Program.keyLits
  rw [Tryz.underlying2]
  simp [hx]
theorem Tryz.litsRf (m : Nat) {p q : Int} (hp : (Lit.int .i64 p).wf = true) (hq : (Lit.int .i64 q).wf = true) : Tryz.prog.keyLits (m + 2) 47 [.int .i64 p, .int .i64 q] = some [.int .i64 p, .int .i64 q] := by
  unfold Program.keyLits
  rw [Tryz.underlying47]
  simp [Tryz.cellsRf, Tryz.cellsI64R, Tryz.litI64R m hp, Tryz.litI64R m hq]
def encR (r : Int × Int) : Value := .agg #[.int .i64 r.1, .int .i64 r.2]
theorem encR_inj {a b : Int × Int} (h : encR a = encR b) : a = b := by
  simp [encR] at h
  exact Prod.ext h.1 h.2
theorem keyRf {r : Int × Int} (hp : (Lit.int .i64 r.1).wf = true) (hq : (Lit.int .i64 r.2).wf = true) : ∃ kl, keyOf Tryz.prog 47 (encR r) = some kl := by
  obtain ⟨m, hm⟩ := Tryz.someTypesR
  refine ⟨.string (keyBytes [.int .i64 r.1, .int .i64 r.2]), ?_⟩
  unfold encR
  have hf : (Value.agg #[.int .i64 r.1, .int .i64 r.2]).formed Tryz.prog 47 = true := by simp [Value.formed, Tryz.underlying47, Tryz.cellsRf]
  unfold keyOf
  rw [Tryz.underlying47]
  simp only [Tryz.keyRf, hf, hm, Bool.and_self, if_true]
  have hc : (Value.agg #[.int .i64 r.1, .int .i64 r.2]).cells.toList = [.int .i64 r.1, .int .i64 r.2] := rfl
  rw [hc, Tryz.litsRf m hp hq]
  rfl

set_option maxRecDepth 20000 in
theorem Tryz.litI64R_inv {m : Nat} {c : Value} {l : List Lit} (h : Tryz.prog.keyLits (m + 1) 2 [c] = some l) : ∃ x, c = .int .i64 x ∧ (Lit.int .i64 x).wf = true := by
  unfold Program.keyLits at h
  rw [Tryz.underlying2] at h
  cases c <;> simp at h
  rename_i k n
  obtain ⟨⟨rfl, hw⟩, _⟩ := h
  exact ⟨n, rfl, hw⟩
set_option maxRecDepth 20000 in
theorem keyRf_inv {key : Value} {kl : Lit} (h : keyOf Tryz.prog 47 key = some kl) : ∃ r : Int × Int, key = encR r ∧ (Lit.int .i64 r.1).wf = true ∧ (Lit.int .i64 r.2).wf = true := by
  obtain ⟨m, hm⟩ := Tryz.someTypesR
  unfold keyOf at h
  rw [Tryz.underlying47] at h
  simp only at h
  split at h
  · rename_i hc
    have hf : key.formed Tryz.prog 47 = true := by simpa [Tryz.keyRf] using hc
    cases key <;> simp [Value.formed, Tryz.underlying47, Tryz.cellsRf] at hf
    rename_i cs
    obtain ⟨cs⟩ := cs
    match cs, hf with
    | [c0, c1], _ =>
      have hcl : (Value.agg ⟨[c0, c1]⟩).cells.toList = [c0, c1] := rfl
      rw [hcl, hm] at h
      unfold Program.keyLits at h
      rw [Tryz.underlying47] at h
      simp [Tryz.cellsRf, Tryz.cellsI64R] at h
      cases h0 : Tryz.prog.keyLits (m + 1) 2 [c0] with
      | none => rw [h0] at h; simp at h
      | some l0 =>
        cases h1 : Tryz.prog.keyLits (m + 1) 2 [c1] with
        | none => rw [h0, h1] at h; simp at h
        | some l1 =>
          obtain ⟨x0, rfl, w0⟩ := Tryz.litI64R_inv h0
          obtain ⟨x1, rfl, w1⟩ := Tryz.litI64R_inv h1
          exact ⟨(x0, x1), rfl, w0, w1⟩
  · cases h

/-- A coin as the map holds it. -/
def coV (x : Co × Value) : Value := .agg #[.int .i64 x.1.p, .int .i64 x.1.q, .int .i64 x.1.v, x.2, .int .i64 x.1.x, .int .i64 x.1.y, .int .i64 x.1.h, .bool x.1.m]
def zeroC : Value := .agg #[.int .i64 0, .int .i64 0, .int .i64 0, .slice none 0 0, .int .i64 0, .int .i64 0, .int .i64 0, .bool false]
theorem zeroC_any (w : World) : (zeroValue 54).run Tryz.prog w = .ok zeroC w := by kernel_rfl
def Rv (v : Value) : Option (DataW Value × List MemPlace) := some (.held v, [])
def refOf (x : Co × Value) : Int × Int := (x.1.p, x.1.q)
def findP (ps : List (Co × Value)) (r : Int × Int) : Option (Co × Value) := ps.find? fun x => decide (refOf x = r)
def LookD (D : DataW Value) (kl : Lit) : Option (Co × Value) → Prop
  | none => Maps.has D kl = false ∧ ∀ zd, D.atKey kl zd = zd
  | some x => Maps.has D kl = true ∧ ∀ zd, D.atKey kl zd = .held (coV x)

/-- The purse in block B: what it tells of each ref; the keys lie in blocks from lo on, no two in one. -/
structure Pu (w : World) (lo B : Nat) (ps : List (Co × Value)) : Prop where
  map : ∃ D : DataW Value, w.ownsMap Tryz.prog 47 Rv B ps.length D ∧ Maps.size D = ps.length ∧ ∀ r kl, keyOf Tryz.prog 47 (encR r) = some kl → LookD D kl (findP ps r)
  rows : ∀ x ∈ ps, w.ownsRow lo 2 1 x.2 x.1.l.length (ints x.1.l)
  base : lo ≤ B
  apart : ps.Pairwise fun x y => ∀ b, x.2.ownBlock = some b → y.2.ownBlock ≠ some b
  refs : ps.Pairwise fun x y => refOf x ≠ refOf y
  wfs : ∀ x ∈ ps, (Lit.int .i64 x.1.p).wf = true ∧ (Lit.int .i64 x.1.q).wf = true

theorem ownsMap_tight {w : World} {k : TypeId} {R : Value → Option (DataW Value × List MemPlace)} {b n : Nat} {D : DataW Value} (h : w.ownsMap Tryz.prog k R b n D) : w.ownsMap Tryz.prog k R b (Maps.size D) D := by
  obtain ⟨es, clock, hb, F, _, rfl⟩ := h
  exact ⟨es, clock, hb, F, by simp [Maps.size, length_sorted], rfl⟩
theorem Pu.lt {w : World} {lo B : Nat} {ps : List (Co × Value)} (h : Pu w lo B ps) : B < w.heap.size := by obtain ⟨D, ho, _⟩ := h.map; exact ho.lt
theorem Pu.made {w : World} {lo : Nat} (h : lo ≤ w.heap.size) : Pu (w.alloc (.map #[] 0)) lo w.heap.size [] :=
  ⟨⟨.map [], World.ownsMap_made _ _ _ _, rfl, fun r kl _ => ⟨rfl, fun _ => rfl⟩⟩, fun x hx => (by cases hx), h, List.Pairwise.nil, List.Pairwise.nil, fun x hx => (by cases hx)⟩
theorem Pu.below {w w' : World} {lo B : Nat} {ps : List (Co × Value)} (h : Pu w lo B ps) (hb : Below w.heap.size w w') : Pu w' lo B ps := by
  obtain ⟨D, ho, hsz, hat⟩ := h.map
  exact ⟨⟨D, ho.kept (grown_of_below hb) (by simp), hsz, hat⟩, fun x hx => (h.rows x hx).kept (grown_of_below hb) (by cases Value.ownBlock x.2 <;> simp), h.base, h.apart, h.refs, h.wfs⟩
theorem Pu.len {w : World} {lo B : Nat} {ps : List (Co × Value)} (h : Pu w lo B ps) (ty : TypeId) : (Builtin.len_ #[75] ty #[.map (some B)]).run Tryz.prog w = .ok (.int .i64 (ps.length : Nat)) w := by
  obtain ⟨D, ho, hsz, _⟩ := h.map
  rw [← hsz]
  exact ho.len Tryz.underlying75 ty

theorem Pu.look {w : World} {lo B : Nat} {ps : List (Co × Value)} (h : Pu w lo B ps) {r : Int × Int} (hp : (Lit.int .i64 r.1).wf = true) (hq : (Lit.int .i64 r.2).wf = true) :
    (Instr.lookup 75 (.map (some B)) (encR r) true).run Tryz.prog w = .ok (.tuple #[((findP ps r).map coV).getD zeroC, .bool (findP ps r).isSome]) w := by
  obtain ⟨D, ho, _, hat⟩ := h.map
  obtain ⟨kl, hk⟩ := keyRf hp hq
  obtain ⟨v, pl, hrun, hv⟩ := ho.look_ok kR Tryz.underlying75 (zeroC_any w) (zd := .held zeroC) (zp := []) rfl hk
  have hl := hat r kl hk
  cases hf : findP ps r with
  | none =>
    rw [hf] at hl
    rw [hl.2] at hv
    have : v = zeroC := (show v = zeroC ∧ pl = [] by simpa [Rv] using hv).1
    rw [hrun, hl.1, this]; rfl
  | some x =>
    rw [hf] at hl
    rw [hl.2] at hv
    have : v = coV x := (show v = coV x ∧ pl = [] by simpa [Rv] using hv).1
    rw [hrun, hl.1, this]; rfl

theorem find_snoc {ps : List (Co × Value)} {x : Co × Value} {r : Int × Int} (h : findP ps (refOf x) = none) : findP (ps ++ [x]) r = if refOf x = r then some x else findP ps r := by
  unfold findP at *
  rw [List.find?_append]
  by_cases e : refOf x = r
  · rw [← e, h, if_pos rfl]; simp
  · rw [if_neg e]
    simp [e]

theorem Pu.store {w : World} {lo B : Nat} {ps : List (Co × Value)} (h : Pu w lo B ps) {x : Co × Value} (hp : (Lit.int .i64 x.1.p).wf = true) (hq : (Lit.int .i64 x.1.q).wf = true) (hn : findP ps (refOf x) = none) (hl : ps.length ≤ 1000)
    (hrow : w.ownsRow lo 2 1 x.2 x.1.l.length (ints x.1.l)) (hap : ∀ y ∈ ps, ∀ b, y.2.ownBlock = some b → x.2.ownBlock ≠ some b) :
    ∃ w', (Instr.mapUpdate 75 (.map (some B)) (encR (refOf x)) (coV x)).run Tryz.prog w = .ok () w' ∧ Pu w' lo B (ps ++ [x]) ∧ w.grownBy w' (some B) := by
  obtain ⟨D, ho, hsz, hat⟩ := h.map
  obtain ⟨kl, hk⟩ := keyRf (r := refOf x) hp hq
  have hno : Maps.has D kl = false := by have := hat (refOf x) kl hk; rw [hn] at this; exact this.1
  obtain ⟨w', hrun, ho', hg⟩ := ho.update kR Tryz.underlying75 (by unfold maxLen; omega) hk (d := .held (coV x)) (ps := []) rfl
  have nb : ∀ y : Co × Value, w.ownsRow lo 2 1 y.2 y.1.l.length (ints y.1.l) → y.2.ownBlock ≠ some B := fun y hy e => by
    obtain ⟨es, clock, hb, _⟩ := ho
    rcases hy.2 with ⟨e1, _⟩ | ⟨g, c, cur, e1, _, hh, _⟩
    · rw [e1] at e; cases e
    · rw [e1] at e
      have : g = B := by simpa [Value.ownBlock] using e
      rw [this, hb] at hh
      cases hh
  refine ⟨w', hrun, ⟨⟨_, by simpa using ho', by rw [size_put (ho.tidy kR), hno, hsz]; simp, fun r kl' hy => ?_⟩, fun y hy => ?_, h.base, ?_, ?_, fun y hy => ?_⟩, hg⟩
  · rw [find_snoc hn]
    by_cases e : refOf x = r
    · subst e
      rw [hk] at hy
      cases hy
      rw [if_pos rfl]
      exact ⟨has_put_same ho.isMap (kR.key hk) _, fun zd => atKey_put_same ho.isMap (kR.key hk) _ _⟩
    · rw [if_neg e]
      have hne : kl' ≠ kl := fun e2 => e (encR_inj (kR.inj (by rw [e2]; exact hk) hy)).symm.symm
      have hl2 := hat r kl' hy
      cases hf : findP ps r with
      | none =>
        rw [hf] at hl2
        exact ⟨(has_put_other hne _).trans hl2.1, fun zd => (atKey_put_other hne _ _).trans (hl2.2 zd)⟩
      | some y =>
        rw [hf] at hl2
        exact ⟨(has_put_other hne _).trans hl2.1, fun zd => (atKey_put_other hne _ _).trans (hl2.2 zd)⟩
  · rcases List.mem_append.1 hy with hy | hy
    · exact (h.rows y hy).kept hg (.inr (nb y (h.rows y hy)))
    · obtain rfl := List.mem_singleton.1 hy
      exact hrow.kept hg (.inr (nb y hrow))
  · rw [List.pairwise_append]
    refine ⟨h.apart, List.pairwise_singleton _ _, fun y hy z hz b hb => ?_⟩
    obtain rfl := List.mem_singleton.1 hz
    exact hap y hy b hb
  · rw [List.pairwise_append]
    refine ⟨h.refs, List.pairwise_singleton _ _, fun y hy z hz e => ?_⟩
    obtain rfl := List.mem_singleton.1 hz
    unfold findP at hn
    rw [List.find?_eq_none] at hn
    exact hn y hy (by simpa using e)
  · rcases List.mem_append.1 hy with hy | hy
    · exact h.wfs y hy
    · obtain rfl := List.mem_singleton.1 hy
      exact ⟨hp, hq⟩

end Go.Proofs.YtagokfoimokniaaGreatDoor

namespace Go.Proofs.YtagokfoimokniaaGreatDoor
open Go.RowKit Go.Maps Go.WideMaps

theorem news_ints {w : World} {b off n : Nat} {l : List Int} (h : IAt w (some ⟨b, off, none⟩) n l) : ∀ j u, (ints l)[j]? = some u → w.cell? ((⟨b, off, none⟩ : Addr).add j) = some u := by
  intro j u hj
  have hjl : j < l.length := by
    have := (List.getElem?_eq_some_iff.1 hj).1
    simpa [ints] using this
  rcases h.2 with h0 | ⟨b', off', e, _, hc⟩
  · have := h.1; omega
  · cases e
    have := hc j (by rw [← h.1]; exact hjl)
    have ea : (⟨b, off, none⟩ : Addr).add j = ⟨b, off + j, none⟩ := by simp [Addr.add]
    rw [ea, this]
    simp [ints] at hj
    obtain ⟨a, ha, rfl⟩ := hj
    rw [List.getD, ha]; rfl
theorem one_ints (l : List Int) : ∀ u ∈ ints l, u.oneCell' = true := by
  intro u hu
  simp [ints] at hu
  obtain ⟨a, _, rfl⟩ := hu
  rfl

/-- Keys appended to an empty row that has just been laid. -/
theorem keys_added {W : World} {X b off n c base : Nat} {l : List Int} (hX : W.heap[X]? = some (.cells #[] 2 (0, 0))) (hbX : base ≤ X) (hI : IAt W (some ⟨b, off, none⟩) n l) (hn : n ≤ 1048576) (hb : base ≤ W.heap.size) :
    ∃ g cap w3, (Builtin.append_ #[48, 48] 48 #[.slice (some ⟨X, 0, none⟩) 0 0, .slice (some ⟨b, off, none⟩) n c]).run Tryz.prog W = .ok (.slice (some ⟨g, 0, none⟩) n cap) w3 ∧
      Hid (w3.ownsRow base 2 1 (.slice (some ⟨g, 0, none⟩) n cap) n (ints l) ∧ W.grownBy w3 (some X)) := by
  obtain ⟨i0, hi, hz0, hz1, hz2⟩ := info_parts Tryz.infoI64
  have hown := own_empty (size := 1) hX hbX
  obtain ⟨v', w3, hrun, hown', hgrow, hsome⟩ := run_append_own (P := Tryz.prog) W base 48 48 2 i0 (.int .i64 0) 1 8 Tryz.underlying48 hi hz0 hz1 hz2 rfl (by decide) (.slice (some ⟨X, 0, none⟩) 0 0) 0 [] hown ⟨b, off, none⟩ n c (ints l) (by simp [ints, hI.1]) (news_ints hI) (one_ints l) (by unfold maxLen; omega) (by omega) hb
  rw [Nat.zero_add, List.nil_append] at hown'
  rcases id hown'.2 with ⟨e1, _⟩ | ⟨g, cap, cur, e1, _⟩
  · have := hsome.1 e1; simp at this
  · subst e1
    exact ⟨g, cap, w3, hrun, hown', hgrow⟩

/-- An append in a plain region, out of its own run. -/
theorem wpList_append_runC {P : Program} {w : World} {ops : Array Oper} {rest : List Oper} {o : Oper} {a : Act} {Q : Exit → Act → World → Prop} (hgd : o.guard = none) (s x : Operand) (t : TypeId)
    (hop : o.op = .call { callee := .builtin .append, args := #[s, x], argTypes := #[t, t] }) {v u v' : Value} {w' : World} (hs : a.eval s = v) (hx : a.eval x = u) (hrun : (Builtin.append_ #[t, t] o.type #[v, u]).run P w = .ok v' w') (h : wpList P ops Q rest (a.put o.dst v') w') :
    wpList P ops Q (o :: rest) a w :=
  wpList_plain hgd fun _ hK => by
    unfold Oper.wp
    simp [execOp, hop, resolve, invoke, builtin, hs, hx, hrun, Result.andThen]
    exact hK _ _ h

theorem grown_new {w W w3 : World} {X : Nat} (hb : Below w.heap.size w W) (hg : W.grownBy w3 (some X)) (hX : w.heap.size ≤ X) : Below w.heap.size w w3 := hb.grown hg hb.size (fun k e => by cases e; exact hX)

set_option maxRecDepth 20000 in
theorem clone_any (b off n cap : Nat) (l : List Int) (w : World) (hn : n ≤ 1048576) (hI : IAt w (some ⟨b, off, none⟩) n l) :
    Calls Tryz.prog 124 #[.slice (some ⟨b, off, none⟩) n cap] w fun e w' => ∃ g c, e = .returned (.slice (some ⟨g, 0, none⟩) n c) ∧ w'.ownsRow w.heap.size 2 1 (.slice (some ⟨g, 0, none⟩) n c) n (ints l) ∧ Below w.heap.size w w' := by
  have hbx : Below w.heap.size w (w.alloc (.cells #[] 2)) := below_box _
  obtain ⟨g, c, w3, hrun, HW⟩ := keys_added (W := w.alloc (.cells #[] 2)) (X := w.heap.size) (c := cap) (heap_alloc_new _ _) (Nat.le_refl _) (hI.below hbx (Nat.le_refl _)) hn hbx.size
  have HB : Hid (Below w.heap.size w (w.alloc (.cells #[] 2))) := hbx
  have hnil : ∀ W : World, (binOp BinOp.eql 48 (.slice (some ⟨b, off, none⟩) n cap) (.slice none 0 0)).run Tryz.prog W = .ok (.bool false) W := fun W => (by kernel_rfl)
  clear hI hbx
  go_enter Tryz.func124, Tryz.ntmps124
  go_wp2_with (first | (at_builtin; go_must (refine wpList_append_runC (by rfl) _ _ _ (by rfl) (by rfl) (by rfl) hrun ?_); clear hrun))
  go_ret
  exact ⟨g, c, rfl, HW.out.1, grown_new HB.out HW.out.2 (Nat.le_refl _)⟩

theorem Pu.set {w : World} {lo B b : Nat} {ps : List (Co × Value)} (h : Pu w lo B ps) (hB : B ≠ b) (hr : ∀ x ∈ ps, x.2.ownBlock ≠ some b) (i : Nat) (u : Value) : Pu (w.setCell ⟨b, i, none⟩ u) lo B ps := by
  obtain ⟨D, ho, hsz, hat⟩ := h.map
  exact ⟨⟨D, ho.setCell hB u, hsz, hat⟩, fun x hx => ownsRow_setCell_other (h.rows x hx) (a := ⟨b, i, none⟩) (hr x hx) u, h.base, h.apart, h.refs, h.wfs⟩
theorem Pu.newer {w : World} {lo B : Nat} {ps : List (Co × Value)} (h : Pu w lo B ps) {b : Nat} (hb : w.heap.size ≤ b) : ∀ x ∈ ps, x.2.ownBlock ≠ some b := fun x hx e => by
  have := ((h.rows x hx).lt b e).2
  omega

set_option maxRecDepth 20000 in
set_option maxHeartbeats 1000000 in
theorem put_any (B lo b off kc : Nat) (ps : List (Co × Value)) (op oq ov : Int) (ol : List Int) (ox oy oh : Int) (om : Bool) (w : World) (hP : Pu w lo B ps) (hlo : lo ≤ w.heap.size) (hlen : ol.length ≤ 1048576) (hI : IAt w (some ⟨b, off, none⟩) ol.length ol) (hp : (Lit.int .i64 op).wf = true) (hq : (Lit.int .i64 oq).wf = true) (hn : findP ps (op, oq) = none) (hl : ps.length ≤ 1000) :
    Calls Tryz.prog 78 #[.map (some B), .agg #[.int .i64 op, .int .i64 oq, .int .i64 ov, .slice (some ⟨b, off, none⟩) ol.length kc, .int .i64 ox, .int .i64 oy, .int .i64 oh, .bool om]] w fun e w' => e = .returned (.tuple #[]) ∧ Hid (∃ u, Pu w' lo B (ps ++ [(⟨op, oq, ov, ol, ox, oy, oh, om⟩, u)])) ∧ Chg w w' B (B + 1) := by
  have hbx : Below w.heap.size w (w.alloc (.cells #[.int .i64 op, .int .i64 oq, .int .i64 ov, .slice (some ⟨b, off, none⟩) ol.length kc, .int .i64 ox, .int .i64 oy, .int .i64 oh, .bool om] 54)) := below_box _
  have hC := clone_any b off ol.length kc ol (w.alloc (.cells #[.int .i64 op, .int .i64 oq, .int .i64 ov, .slice (some ⟨b, off, none⟩) ol.length kc, .int .i64 ox, .int .i64 oy, .int .i64 oh, .bool om] 54)) hlen (hI.below hbx (Nat.le_refl _))
  have HX : Hid ((w.alloc (.cells #[.int .i64 op, .int .i64 oq, .int .i64 ov, .slice (some ⟨b, off, none⟩) ol.length kc, .int .i64 ox, .int .i64 oy, .int .i64 oh, .bool om] 54)).heap[w.heap.size]? = some (.cells #[.int .i64 op, .int .i64 oq, .int .i64 ov, .slice (some ⟨b, off, none⟩) ol.length kc, .int .i64 ox, .int .i64 oy, .int .i64 oh, .bool om] 54 (0, 0))) := heap_alloc_new _ _
  have HBX : Hid (Below w.heap.size w (w.alloc (.cells #[.int .i64 op, .int .i64 oq, .int .i64 ov, .slice (some ⟨b, off, none⟩) ol.length kc, .int .i64 ox, .int .i64 oy, .int .i64 oh, .bool om] 54))) := hbx
  have HP : Hid (Pu w lo B ps) := hP
  have HN : Hid (findP ps (op, oq) = none) := hn
  have HWF : Hid ((Lit.int .i64 op).wf = true ∧ (Lit.int .i64 oq).wf = true) := ⟨hp, hq⟩
  clear hbx hI hP hn hp hq
  go_enter Tryz.func78, Tryz.ntmps78
  have key : ∀ w2 g c, w2.ownsRow (w.heap.size + 1) 2 1 (.slice (some ⟨g, 0, none⟩) ol.length c) ol.length (ints ol) → Below (w.heap.size + 1) (w.alloc (.cells #[.int .i64 op, .int .i64 oq, .int .i64 ov, .slice (some ⟨b, off, none⟩) ol.length kc, .int .i64 ox, .int .i64 oy, .int .i64 oh, .bool om] 54)) w2 →
      ∃ w', (Instr.mapUpdate 75 (.map (some B)) (.agg #[.int .i64 op, .int .i64 oq]) (.agg #[.int .i64 op, .int .i64 oq, .int .i64 ov, .slice (some ⟨g, 0, none⟩) ol.length c, .int .i64 ox, .int .i64 oy, .int .i64 oh, .bool om])).run Tryz.prog (w2.setCell ⟨w.heap.size, 3, none⟩ (.slice (some ⟨g, 0, none⟩) ol.length c)) = .ok () w' ∧
        Hid (Pu w' lo B (ps ++ [(⟨op, oq, ov, ol, ox, oy, oh, om⟩, .slice (some ⟨g, 0, none⟩) ol.length c)])) ∧ Hid (Chg w w' B (B + 1)) := by
    intro w2 g c hrow hb2
    have hsz : (w.alloc (.cells #[.int .i64 op, .int .i64 oq, .int .i64 ov, .slice (some ⟨b, off, none⟩) ol.length kc, .int .i64 ox, .int .i64 oy, .int .i64 oh, .bool om] 54)).heap.size = w.heap.size + 1 := by simp
    have hb2' : Below (w.alloc (.cells #[.int .i64 op, .int .i64 oq, .int .i64 ov, .slice (some ⟨b, off, none⟩) ol.length kc, .int .i64 ox, .int .i64 oy, .int .i64 oh, .bool om] 54)).heap.size (w.alloc (.cells #[.int .i64 op, .int .i64 oq, .int .i64 ov, .slice (some ⟨b, off, none⟩) ol.length kc, .int .i64 ox, .int .i64 oy, .int .i64 oh, .bool om] 54)) w2 := by rw [hsz]; exact hb2
    have hb3 : Below w.heap.size w w2 := HBX.out.trans (hb2.mono (by omega))
    have hBl := HP.out.lt
    have h1 : Pu w2 lo B ps := HP.out.below hb3
    have hgb := (hrow.lt g rfl).1
    have h2 := h1.set (b := w.heap.size) (by omega) (HP.out.newer (Nat.le_refl _)) 3 (.slice (some ⟨g, 0, none⟩) ol.length c)
    have hrow2 : (w2.setCell ⟨w.heap.size, 3, none⟩ (.slice (some ⟨g, 0, none⟩) ol.length c)).ownsRow lo 2 1 (.slice (some ⟨g, 0, none⟩) ol.length c) ol.length (ints ol) :=
      Joins.ownsRow_le (ownsRow_setCell_below hrow (a := ⟨w.heap.size, 3, none⟩) (show w.heap.size < _ by omega) _) (by omega)
    obtain ⟨w', hrun, hPu, hg⟩ := h2.store (x := (⟨op, oq, ov, ol, ox, oy, oh, om⟩, .slice (some ⟨g, 0, none⟩) ol.length c)) HWF.out.1 HWF.out.2 HN.out hl hrow2 (fun y hy b' hb' e => by
      have : g = b' := by simpa [Value.ownBlock] using e
      have := ((HP.out.rows y hy).lt b' hb').2
      omega)
    refine ⟨w', hrun, hPu, ?_⟩
    have c2 : Below w.heap.size w (w2.setCell ⟨w.heap.size, 3, none⟩ (.slice (some ⟨g, 0, none⟩) ol.length c)) := hb3.setCell (p := ⟨w.heap.size, 3, none⟩) (Nat.le_refl _) _
    exact (Chg.of_below c2 _ _).trans (Chg.of_grown hg fun k e => by cases e; omega)
  clear HWF HN
  go_wp2_with (first
    | (go_at_call 124; (with_reducible refine hC.mono ?_); clear hC; rintro e w2 ⟨g, c, rfl, hrow, hb2⟩; have hsz : (w.alloc (.cells #[.int .i64 op, .int .i64 oq, .int .i64 ov, .slice (some ⟨b, off, none⟩) ol.length kc, .int .i64 ox, .int .i64 oy, .int .i64 oh, .bool om] 54)).heap.size = w.heap.size + 1 := (by simp); rw [hsz] at hrow hb2; obtain ⟨w', hrun, HPU, HCH⟩ := key w2 g c hrow hb2; obtain ⟨⟨s0, s1, s2, s3, s4, s5, s6, s7⟩, f0, f1, f2, f3, f4, f5, f6, f7⟩ := cells8 ((hb2.block w.heap.size (by omega)).trans HX.out); clear hrow hb2 key))
  go_end0
  exact ⟨rfl, ⟨_, HPU.out⟩, HCH.out⟩

end Go.Proofs.YtagokfoimokniaaGreatDoor

namespace Go.Proofs.YtagokfoimokniaaGreatDoor
open Go.RowKit Go.Shelf Go.Maps Go.WideMaps

def str (l : List UInt8) : ByteArray := ⟨l.toArray⟩

/-- A text of one byte, out of a slice of one. -/
theorem conv1 (c : Int) (W : World) (b cap : Nat) (h : W.cell? ⟨b, 0, none⟩ = some (.int .u8 c)) : (convert 22 9 (.slice (some ⟨b, 0, none⟩) 1 cap)).run Tryz.prog W = .ok (.string (str [UInt8.ofNat c.toNat])) W := by
  have := run_convert_bytes_arg W 22 5 Tryz.underlying22 Tryz.underlying5 b 0 1 cap [c] rfl (fun i hi => by
    obtain rfl : i = 0 := by omega
    simpa using h) 9 Tryz.underlying9
  rw [this]
  rfl
theorem conv1_new (c : Int) (W : World) (t : TypeId) (cap : Nat) : (convert 22 9 (.slice (some ⟨W.heap.size, 0, none⟩) 1 cap)).run Tryz.prog (W.alloc (.cells #[.int .u8 c] t)) = .ok (.string (str [UInt8.ofNat c.toNat])) (W.alloc (.cells #[.int .u8 c] t)) :=
  conv1 c _ _ cap (new1 W (.int .u8 c) t).1

theorem byte_kept {w w2 : World} {c : Int} {t : TypeId} (hb : Below (w.alloc (.cells #[.int .u8 c] t)).drew.heap.size (w.alloc (.cells #[.int .u8 c] t)).drew w2) : w2.cell? ⟨w.heap.size, 0, none⟩ = some (.int .u8 c) :=
  (hb.cell (p := ⟨w.heap.size, 0, none⟩) (by simp)).trans (new1 w (.int .u8 c) t).1

theorem str_append (a b : List UInt8) : str a ++ str b = str (a ++ b) := by
  apply ByteArray.ext
  simp [str]
theorem digits_len (q : Nat) (h : q ≤ 1000000000) : (Lib.decDigits q).length ≤ 10 := by
  have key : ∀ k q : Nat, q < 10 ^ k → 1 ≤ k → (Lib.decDigits q).length ≤ k := by
    intro k
    induction k with
    | zero => intro q _ h; omega
    | succ k ih =>
      intro q hq _
      rw [Lib.decDigits]
      split
      · simp
      · rw [List.length_append]
        have hk : 1 ≤ k := by
          rcases Nat.eq_zero_or_pos k with rfl | h
          · simp at hq; omega
          · exact h
        have := ih (q / 10) (by rw [Nat.pow_succ] at hq; omega) hk
        simp; omega
  exact key 10 q (by omega) (by omega)

set_option maxRecDepth 20000 in
set_option maxHeartbeats 1000000 in
theorem l2Digits_any (n : Nat) (hn : n ≤ 1000000000) : ∀ (w : World), Calls Tryz.prog 116 #[.int .i64 n] w fun e w' => e = .returned (.string (str (Lib.decDigits n))) ∧ Below w.heap.size w w' := by
  induction n using Nat.strongRecOn with
  | ind n ih =>
    intro w
    by_cases h : n < 10
    · rw [Lib.decDigits_one h]
      have hcv := conv1_new (48 + n) w 5 1
      have he : UInt8.ofNat (48 + (n : Int)).toNat = UInt8.ofNat (48 + n) := by congr 1
      rw [he] at hcv
      obtain ⟨ch, hch⟩ : ∃ c, c = UInt8.ofNat (48 + n) := ⟨_, rfl⟩
      rw [← hch] at hcv ⊢
      clear ih he hch
      go_enter Tryz.func116, Tryz.ntmps116
      go_wp2
      go_ret
      exact ⟨rfl, below_box _⟩
    · have ih' := ih (n / 10) (by omega) (by omega)
      have hd : Lib.decDigits n = Lib.decDigits (n / 10) ++ [UInt8.ofNat (48 + n % 10)] := by rw [Lib.decDigits, dif_neg h]
      obtain ⟨d, hdd⟩ : ∃ d, d = n % 10 := ⟨_, rfl⟩
      obtain ⟨q, hq⟩ : ∃ q, q = n / 10 := ⟨_, rfl⟩
      rw [hd, ← hq, ← hdd]
      rw [← hq] at ih'
      have a0 : IntKind.i64.wrap ((n : Int) / 10) = (q : Int) := by rw [IntWalk.i64_in _ (by omega)]; omega
      have a1 : (n : Int).tmod 10 = (d : Int) := by rw [Int.tmod_eq_emod_of_nonneg (by omega)]; omega
      have a2 : IntKind.i64.wrap (48 + (d : Int)) = 48 + (d : Int) := IntWalk.i64_in _ (by omega)
      have a3 : IntKind.u8.wrap (48 + (d : Int)) = 48 + (d : Int) := IntWalk.u8_in _ (by omega)
      obtain ⟨ch, hch⟩ : ∃ c, c = UInt8.ofNat (48 + d) := ⟨_, rfl⟩
      have HCV : Hid (∀ (W : World) (b : Nat), W.cell? ⟨b, 0, none⟩ = some (.int .u8 (48 + (d : Int))) → (convert 22 9 (.slice (some ⟨b, 0, none⟩) 1 1)).run Tryz.prog W = .ok (.string (str [ch])) W) := fun W b hW => by
        have := conv1 (48 + (d : Int)) W b 1 hW
        have he : UInt8.ofNat (48 + (d : Int)).toNat = UInt8.ofNat (48 + d) := by congr 1
        rw [he, ← hch] at this
        exact this
      have hcn : ∀ W : World, (convert 22 9 (.slice (some ⟨W.heap.size, 0, none⟩) 1 1)).run Tryz.prog (W.alloc (.cells #[.int .u8 (48 + (d : Int))] 5)) = .ok (.string (str [ch])) (W.alloc (.cells #[.int .u8 (48 + (d : Int))] 5)) := fun W => HCV.out _ _ (new1 W _ _).1
      have hcd : ∀ W : World, (convert 22 9 (.slice (some ⟨W.heap.size, 0, none⟩) 1 1)).run Tryz.prog (W.alloc (.cells #[.int .u8 (48 + (d : Int))] 5)).drew = .ok (.string (str [ch])) (W.alloc (.cells #[.int .u8 (48 + (d : Int))] 5)).drew := fun W => HCV.out _ _ (new1 W _ _).1
      rw [← hch]
      obtain ⟨qs, hqs⟩ : ∃ l, l = Lib.decDigits q := ⟨_, rfl⟩
      rw [← hqs] at ih' ⊢
      have hql : qs.length ≤ 10 := by rw [hqs]; exact digits_len q (by omega)
      have hap : str qs ++ str [ch] = str (qs ++ [ch]) := str_append _ _
      have hsz1 : (str qs).size ≤ 10 := hql
      have hsz2 : (str [ch]).size = 1 := rfl
      clear ih hd hch hqs hq hdd
      go_enter Tryz.func116, Tryz.ntmps116
      go_wp2
      go_region_with (first | (go_at_call 116; refine (ih' _).mono ?_; rintro e w2 ⟨rfl, hb2⟩; (first | (have hcw := HCV.out w2 w.heap.size (byte_kept hb2)) | skip)))
      all_goals
        go_wp2
        go_ret
      all_goals refine ⟨rfl, ?_⟩
      all_goals first | exact ((Below.refl w.heap.size w).drew.trans hb2).trans ((below_box _).mono hb2.size) | exact (below_box (.cells #[.int .u8 (48 + (d : Int))] 5)).drew.trans (hb2.mono (by simp))

end Go.Proofs.YtagokfoimokniaaGreatDoor

namespace Go.Proofs.YtagokfoimokniaaGreatDoor
open Go.RowKit Go.Shelf Go.Maps Go.WideMaps

def dec (k : Int) : List UInt8 := Lib.decDigits k.toNat
def tailT : List Int → List UInt8
  | [] => []
  | k :: t => 44 :: (dec k ++ tailT t)
def keysT : List Int → List UInt8
  | [] => []
  | k :: t => dec k ++ tailT t
def aftT (y : Int) : List UInt8 := if y = 0 then [] else [32, 97, 102, 116, 101, 114, 32] ++ dec y
def rtxR (l : List Int) (x y : Int) : List UInt8 := dec x ++ [32, 111, 102, 32] ++ keysT l ++ aftT y

theorem tailT_snoc (l : List Int) (k : Int) : tailT (l ++ [k]) = tailT l ++ (44 :: dec k) := by
  induction l with
  | nil => simp [tailT]
  | cons a t ih => simp [tailT, ih]
theorem keysT_snoc {l : List Int} (h : l ≠ []) (k : Int) : keysT (l ++ [k]) = keysT l ++ (44 :: dec k) := by
  cases l with
  | nil => exact absurd rfl h
  | cons a t => simp [keysT, tailT_snoc]
theorem dec_len {k : Int} (h : k ≤ 999) : (dec k).length ≤ 10 := digits_len _ (by omega)
theorem digits_int {k : Int} (h0 : 0 ≤ k) (h1 : k ≤ 999) (w : World) : Calls Tryz.prog 116 #[.int .i64 k] w fun e w' => e = .returned (.string (str (dec k))) ∧ Below w.heap.size w w' := by
  obtain ⟨n, rfl⟩ := Int.eq_ofNat_of_zero_le h0
  exact l2Digits_any n (by omega) w

end Go.Proofs.YtagokfoimokniaaGreatDoor

namespace Go.Proofs.YtagokfoimokniaaGreatDoor
open Go.RowKit Go.Shelf Go.Maps Go.WideMaps

def swp (c : UInt8) : UInt8 := if c = 32 then 95 else c
structure SwAt (w wr : World) (t : List UInt8) (k : Nat) : Prop where
  bel : Below w.heap.size w wr
  c : ∀ j, j < t.length → wr.cell? ⟨w.heap.size, j, none⟩ = some (.int .u8 (if j < k then swp (t.getD j 0) else t.getD j 0).toNat)
  f : ∀ j, j < t.length → wr.frozen? ⟨w.heap.size, j, none⟩ = false

theorem bytes_below (w : World) (e : TypeId) (s : ByteArray) : Below w.heap.size w (Lib.bytesWorld w e s) :=
  ⟨rfl, rfl, rfl, by rw [Lib.bytesWorld_size]; omega, fun k hk => Lib.bytesWorld_at_old w e s k hk⟩
theorem SwAt.start (w : World) (t : List UInt8) : SwAt w (Lib.bytesWorld w 5 (str t)) t 0 := by
  refine ⟨bytes_below _ _ _, fun j hj => ?_, fun j hj => ?_⟩
  · have := Lib.bytesWorld_cell w 5 (str t) j hj
    simpa [str] using this
  · have hs : t.length ≤ (Lib.bytesCells w 5 (str t)).size := by simp [Lib.bytesCells, str]
    unfold World.frozen?
    rw [Lib.bytesWorld_at_new]
    simp
    omega
theorem SwAt.same {w wr : World} {t : List UInt8} {k : Nat} (h : SwAt w wr t k) (hs : swp (t.getD k 0) = t.getD k 0) : SwAt w wr t (k + 1) := by
  refine ⟨h.bel, fun j hj => ?_, h.f⟩
  rw [h.c j hj]
  by_cases e : j = k
  · subst e; simp only [Nat.lt_irrefl, if_false, Nat.lt_succ_self, if_true, hs]
  · by_cases e2 : j < k
    · rw [if_pos e2, if_pos (by omega)]
    · rw [if_neg e2, if_neg (by omega)]
theorem SwAt.set {w wr : World} {t : List UInt8} {k : Nat} (h : SwAt w wr t k) (hk : k < t.length) (hs : swp (t.getD k 0) = 95) : SwAt w (wr.setCell ⟨w.heap.size, k, none⟩ (.int .u8 95)) t (k + 1) := by
  refine ⟨h.bel.setCell (p := ⟨w.heap.size, k, none⟩) (Nat.le_refl _) _, fun j hj => ?_, fun j hj => by rw [World.frozen?_setCell]; exact h.f j hj⟩
  by_cases e : j = k
  · subst e
    rw [World.cell?_setCell_same _ _ _ (h.c j hj), if_pos (Nat.lt_succ_self _), hs]
    rfl
  · rw [World.cell?_setCell_other _ _ _ _ (by intro e2; cases e2; exact e rfl), h.c j hj]
    by_cases e2 : j < k
    · rw [if_pos e2, if_pos (by omega)]
    · rw [if_neg e2, if_neg (by omega)]
theorem SwAt.conv {w wr : World} {t : List UInt8} {k cap : Nat} (h : SwAt w wr t k) (hk : ¬ k < t.length) : (convert 22 9 (.slice (some ⟨w.heap.size, 0, none⟩) t.length cap)).run Tryz.prog wr = .ok (.string (str (t.map swp))) wr := by
  have := run_convert_bytes_arg wr 22 5 Tryz.underlying22 Tryz.underlying5 w.heap.size 0 t.length cap ((t.map swp).map fun b => (b.toNat : Int)) (by simp) (fun i hi => by
    have e := h.c i hi
    rw [if_pos (by omega)] at e
    simpa [List.getD, hi] using e) 9 Tryz.underlying9
  rw [this]
  have e : strOfNums ((t.map swp).map fun b => (b.toNat : Int)) = str (t.map swp) := by
    simp [strOfNums, str, Function.comp_def]
  rw [e]

set_option maxRecDepth 20000 in
set_option maxHeartbeats 1000000 in
theorem l3Swap_any (t : List UInt8) (w : World) (ht : t.length ≤ 1000000) : Calls Tryz.prog 117 #[.string (str t), .int .u8 32, .int .u8 95] w fun e w' => e = .returned (.string (str (t.map swp))) ∧ Below w.heap.size w w' := by
  obtain ⟨cap, hcap⟩ : ∃ c, c = grownCap w (str t).size 0 5 := ⟨_, rfl⟩
  obtain ⟨W0, hW0⟩ : ∃ W0, W0 = Lib.bytesWorld w 5 (str t) := ⟨_, rfl⟩
  have hcv := Lib.run_convert_string_bytes w 9 22 5 (str t) Tryz.underlying9 Tryz.underlying22 Tryz.underlying5
  have h0 := SwAt.start w t
  rw [← hcap, ← hW0] at hcv
  rw [← hW0] at h0
  have HS0 : Hid (SwAt w W0 t 0) := h0
  obtain ⟨n, hn⟩ : ∃ n, n = t.length := ⟨_, rfl⟩
  have hsz : (str t).size = n := hn.symm
  rw [hsz] at hcv
  have HN : Hid (n = t.length) := hn
  obtain ⟨r, hr⟩ : ∃ r, r = t.map swp := ⟨_, rfl⟩
  have HR : Hid (r = t.map swp) := hr
  rw [← hr]
  have hnb : n ≤ 1000000 := by omega
  clear hcap hW0 h0 hn hr hsz ht
  go_enter Tryz.func117, Tryz.ntmps117
  go_wp2
  go_loopw [8] (fun i wr => ∃ j : Nat, j ≤ n ∧ i = .int .i64 j ∧ Hid (SwAt w wr t j)) (fun i _ => n - (intOf i).toNat)
  case atStart => exact ⟨0, Nat.zero_le _, rfl, HS0⟩
  case round =>
    obtain ⟨j, hj, rfl, HS⟩ := hrel
    by_cases hlt : j < n
    · have hl2 : j < t.length := by rw [← HN.out]; exact hlt
      have hc := HS.out.c j hl2
      have hf := HS.out.f j hl2
      rw [if_neg (Nat.lt_irrefl _)] at hc
      obtain ⟨ch, hch⟩ : ∃ c, c = t.getD j 0 := ⟨_, rfl⟩
      rw [← hch] at hc
      have HCH : Hid (ch = t.getD j 0) := hch
      have HL2 : Hid (j < t.length) := hl2
      clear hch hl2
      have hki : (j : Int) < (n : Int) := by omega
      by_cases h32 : ch = 32
      · subst h32
        have HS2 := show Hid (SwAt w _ t (j + 1)) from HS.out.set HL2.out (by rw [← HCH.out]; rfl)
        have hc2 : wr.cell? ⟨w.heap.size, j, none⟩ = some (.int .u8 32) := hc
        clear hc
        go_wp2
        go_roundw
        case rel => exact ⟨j + 1, by omega, by go_num, HS2⟩
        case measure => simp [intOf]; omega
      · have HS2 := show Hid (SwAt w _ t (j + 1)) from HS.out.same (by rw [← HCH.out]; simp [swp, h32])
        have hne : ((ch.toNat : Int) == 32) = false := by
          have : ch.toNat ≠ 32 := fun e => h32 (UInt8.toNat_inj.1 e)
          simp; omega
        go_wp2
        go_roundw
        case rel => exact ⟨j + 1, by omega, by go_num, HS2⟩
        case measure => simp [intOf]; omega
    · have hcb := HS.out.conv (cap := cap) (by rw [← HN.out]; exact hlt)
      rw [← HN.out, ← HR.out] at hcb
      have HB : Hid (Below w.heap.size w wr) := HS.out.bel
      go_wp2
      go_ret
      exact ⟨rfl, HB.out⟩

set_option maxRecDepth 20000 in
set_option maxHeartbeats 2000000 in
/-- The text of a rule that lies inside another thing. -/
theorem l2TextAt_any (P q n cap : Nat) (a : Option Addr) (l : List Int) (x y : Int) (w : World) (hn1 : 1 ≤ n) (hn3 : n ≤ 3) (hx : 0 ≤ x ∧ x ≤ 999) (hy : 0 ≤ y ∧ y ≤ 999) (hk : ∀ j, j < n → 0 ≤ l.getD j 0 ∧ l.getD j 0 ≤ 999) (hI : IAt w a n l) (hPl : P < w.heap.size) (p0 : w.cell? ⟨P, q, none⟩ = some (.slice a n cap)) (p1 : w.cell? ⟨P, q + 1, none⟩ = some (.int .i64 x)) (p2 : w.cell? ⟨P, q + 2, none⟩ = some (.int .i64 y)) :
    Calls Tryz.prog 118 #[.pointer (some ⟨P, q, none⟩)] w fun e w' => e = .returned (.string (str (rtxR l x y))) ∧ Below w.heap.size w w' := by
  obtain ⟨rt, hrt⟩ : ∃ r, r = rtxR l x y := ⟨_, rfl⟩
  rw [← hrt]
  have HRT : Hid (rt = rtxR l x y) := hrt
  clear hrt
  have HN : Hid (l.length = n) := hI.1
  rcases hI.2 with h0 | ⟨b, off, e0, l0, d0⟩
  · omega
  subst e0
  have HD : Hid (∀ j, j < n → w.cell? ⟨b, off + j, none⟩ = some (.int .i64 (l.getD j 0))) := d0
  have HK : Hid (∀ j, j < n → 0 ≤ l.getD j 0 ∧ l.getD j 0 ≤ 999) := hk
  obtain ⟨k0, hk0⟩ : ∃ k, k = l.getD 0 0 := ⟨_, rfl⟩
  have c0 := d0 0 (by omega)
  have hkb := hk 0 (by omega)
  rw [← hk0] at c0 hkb
  simp only [Nat.add_zero] at c0
  have HK0 : Hid (k0 = l.getD 0 0) := hk0
  obtain ⟨dx, hdx⟩ : ∃ o, o = dec x := ⟨_, rfl⟩
  obtain ⟨dk, hdk⟩ : ∃ o, o = dec k0 := ⟨_, rfl⟩
  have hlx : dx.length ≤ 10 := by rw [hdx]; exact dec_len hx.2
  have hlk : dk.length ≤ 10 := by rw [hdk]; exact dec_len hkb.2
  have hA : ∀ W, Calls Tryz.prog 116 #[.int .i64 x] W fun e w' => e = .returned (.string (str dx)) ∧ Below W.heap.size W w' := fun W => by rw [hdx]; exact digits_int hx.1 hx.2 W
  have hB : ∀ W, Calls Tryz.prog 116 #[.int .i64 k0] W fun e w' => e = .returned (.string (str dk)) ∧ Below W.heap.size W w' := fun W => by rw [hdk]; exact digits_int hkb.1 hkb.2 W
  have hss : ∀ z : List UInt8, (str z).size = z.length := fun _ => rfl
  have hof : ∀ z : List UInt8, str z ++ ⟨#[32, 111, 102, 32]⟩ = str (z ++ [32, 111, 102, 32]) := fun z => str_append z _
  have happ : ∀ z r : List UInt8, str z ++ str r = str (z ++ r) := str_append
  have HDX : Hid (dx = dec x) := hdx
  have HDK : Hid (dk = dec k0) := hdk
  clear hI hk d0 hk0 hdx hdk
  have hni : 0 < (n : Int) := by omega
  have hnn : 0 < n := by omega
  have hz1 : ¬ 9223372036854775807 < dx.length + 4 := by omega
  have hz2 : ¬ 9223372036854775807 < dx.length + 4 + dk.length := by omega
  go_enter Tryz.func118, Tryz.ntmps118
  go_wp2
  go_region_held3 (fun w' => w'.cell? ⟨P, q, none⟩ = some (.slice (some ⟨b, off, none⟩) n cap) ∧ w'.cell? ⟨P, q + 1, none⟩ = some (.int .i64 x) ∧ w'.cell? ⟨b, off, none⟩ = some (.int .i64 k0)) (go_keep)
    (first
      | (go_at_call 116; (first
          | (have hA' := hA; (with_reducible refine (hA' _).mono ?_); clear hA hA'; rintro e w1 ⟨rfl, hb1⟩; have z0 := (hb1.cell (p := ⟨P, q, none⟩) hPl).trans p0; have z1 := (hb1.cell (p := ⟨P, q + 1, none⟩) hPl).trans p1; have z2 := (hb1.cell (p := ⟨b, off, none⟩) l0).trans c0; have hs1 : w.heap.size ≤ w1.heap.size := hb1.size)
          | ((with_reducible refine (hB _).mono ?_); rintro e w2 ⟨rfl, hb2⟩; have y0 := (hb2.cell (p := ⟨P, q, none⟩) (Nat.lt_of_lt_of_le hPl hs1)).trans z0; have y1 := (hb2.cell (p := ⟨P, q + 1, none⟩) (Nat.lt_of_lt_of_le hPl hs1)).trans z1; have y2 := (hb2.cell (p := ⟨b, off, none⟩) (Nat.lt_of_lt_of_le l0 hs1)).trans z2))))
  have HB2 : Hid (Below w.heap.size w w2) := (show Below w.heap.size w w1 from (Below.refl _ _).drew.trans hb1).trans (hb2.mono hs1)
  obtain ⟨o0, ho0⟩ : ∃ o, o = dx ++ 32 :: 111 :: 102 :: 32 :: dk := ⟨_, rfl⟩
  have hlo : o0.length ≤ 24 := by rw [ho0]; simp; omega
  have HO0 : Hid (o0 = dec x ++ [32, 111, 102, 32] ++ keysT (l.take 1)) := by
    show _ = _
    have e1 : l.take 1 = [k0] := by
      have := take_next HN.out (show 0 < n by omega) HK0.out
      simpa using this
    rw [ho0, HDX.out, HDK.out, e1]
    simp [keysT, tailT]
  rw [← ho0]
  clear ho0 HDX HDK hz1 hz2 hof hB z0 z1 z2 y0 y1 y2 hb1 hb2 hs1 c0 hkb HK0 hlx hlk p1
  have hcm : ∀ z : List UInt8, str z ++ ⟨#[44]⟩ = str (z ++ [44]) := fun z => str_append z _
  have haf : ∀ z : List UInt8, str z ++ ⟨#[32, 97, 102, 116, 101, 114, 32]⟩ = str (z ++ [32, 97, 102, 116, 101, 114, 32]) := fun z => str_append z _
  go_wp2
  go_loopw [3, 4] (fun v i wr => ∃ j : Nat, 1 ≤ j ∧ j ≤ n ∧ i = .int .i64 j ∧ ∃ o : List UInt8, v = .string (str o) ∧ o.length ≤ 24 + 11 * j ∧ Hid (o = dec x ++ [32, 111, 102, 32] ++ keysT (l.take j)) ∧ Below w.heap.size w wr) (fun _ i _ => n - (intOf i).toNat)
  case atStart => exact ⟨1, Nat.le_refl _, hn1, rfl, o0, rfl, by omega, HO0, HB2.out⟩
  case round =>
    obtain ⟨j, hj1, hj, rfl, o, rfl, hol, HO, hbel⟩ := hrel
    have y0 := (hbel.cell (p := ⟨P, q, none⟩) hPl).trans p0
    have y2 := (hbel.cell (p := ⟨P, q + 2, none⟩) hPl).trans p2
    by_cases hlt : j < n
    · obtain ⟨kj, hkj⟩ : ∃ k, k = l.getD j 0 := ⟨_, rfl⟩
      have cj := (hbel.cell (p := ⟨b, off + j, none⟩) l0).trans (HD.out j hlt)
      have hkb := HK.out j hlt
      rw [← hkj] at cj hkb
      have HKJ : Hid (kj = l.getD j 0) := hkj
      obtain ⟨dj, hdj⟩ : ∃ o, o = dec kj := ⟨_, rfl⟩
      have hlj : dj.length ≤ 10 := by rw [hdj]; exact dec_len hkb.2
      have hB : ∀ W, Calls Tryz.prog 116 #[.int .i64 kj] W fun e w' => e = .returned (.string (str dj)) ∧ Below W.heap.size W w' := fun W => by rw [hdj]; exact digits_int hkb.1 hkb.2 W
      have HDJ : Hid (dj = dec kj) := hdj
      clear hkj hdj hkb
      have hki : (j : Int) < (n : Int) := by omega
      have hz1 : ¬ 9223372036854775807 < o.length + 1 := by omega
      have hz2 : ¬ 9223372036854775807 < o.length + 1 + dj.length := by omega
      go_wp2_with (go_at_call 116; refine (hB _).mono ?_; rintro e w3 ⟨rfl, hb3⟩)
      go_roundw
      case rel =>
        refine ⟨j + 1, by omega, by omega, by go_num, _, rfl, by simp; omega, ?_, hbel.trans (hb3.mono hbel.size)⟩
        show _ = _
        have e1 := take_next HN.out hlt HKJ.out
        have e2 : l.take j ≠ [] := by
          intro e
          have := congrArg List.length e
          rw [List.length_take, HN.out] at this
          simp at this
          omega
        rw [e1, keysT_snoc e2, HO.out, HDJ.out]
        simp
      case measure => simp [intOf]; omega
    · have e1 : l.take j = l := take_all HN.out hlt
      have HO2 : Hid (o = dec x ++ [32, 111, 102, 32] ++ keysT l) := by show _ = _; rw [HO.out, e1]
      clear HO e1
      by_cases hy0 : y = 0
      · subst hy0
        obtain rfl : rt = o := by rw [HRT.out, HO2.out]; simp [rtxR, aftT]
        go_wp2
        go_ret
        exact ⟨rfl, hbel⟩
      · obtain ⟨dy, hdy⟩ : ∃ o, o = dec y := ⟨_, rfl⟩
        obtain rfl : rt = o ++ ([32, 97, 102, 116, 101, 114, 32] ++ dy) := by rw [HRT.out, HO2.out, hdy]; simp [rtxR, aftT, hy0]
        have hly : dy.length ≤ 10 := by rw [hdy]; exact dec_len hy.2
        have hB : ∀ W, Calls Tryz.prog 116 #[.int .i64 y] W fun e w' => e = .returned (.string (str dy)) ∧ Below W.heap.size W w' := fun W => by rw [hdy]; exact digits_int hy.1 hy.2 W
        have hyb : (y == 0) = false := by simpa using hy0
        have hz1 : ¬ 9223372036854775807 < o.length + 7 := by omega
        have hz2 : ¬ 9223372036854775807 < o.length + 7 + dy.length := by omega
        clear hdy
        go_wp2_with (go_at_call 116; refine (hB _).mono ?_; rintro e w3 ⟨rfl, hb3⟩)
        go_ret
        exact ⟨by simp, hbel.trans (hb3.mono hbel.size)⟩

end Go.Proofs.YtagokfoimokniaaGreatDoor

namespace Go.Proofs.YtagokfoimokniaaGreatDoor
open Go.RowKit Go.Shelf Go.Maps Go.WideMaps
theorem digits_big {k:Int} (h0:0≤k) (h1:k≤1000000) (w:World):Calls Tryz.prog 116 #[.int .i64 k] w fun e w'=>e= .returned (.string (str (dec k)))∧Below w.heap.size w w':=by
 obtain ⟨n,rfl⟩:=Int.eq_ofNat_of_zero_le h0
 exact l2Digits_any n (by omega) w
theorem dec_big {k:Int} (h:k≤1000000):(dec k).length≤10:=digits_len _ (by omega)
def kindT (k:Int):List UInt8:=if k=0 then [112,97,121] else if k=1 then [106,111,105,110,32] else [108,101,97,118,101,32]
def headT (k f:Int):List UInt8:=kindT k++(if k=0 then [] else dec f)
def refT (r:Int×Int):List UInt8:=dec r.1++(58::dec r.2)
def refsT:List (Int×Int)→List UInt8
 |[]=>[]
 |r::t=>32::(refT r++t.flatMap fun r=>43::refT r)
def outT (o:Ou):List UInt8:=32::(dec o.v++(61::(rtxR o.l o.x o.y).map swp))
def txT (k f:Int) (rs:List (Int×Int)) (os:List Ou):List UInt8:=headT k f++refsT rs++os.flatMap outT
theorem refsT_snoc (l:List (Int×Int)) (r:Int×Int):refsT (l++[r])=refsT l++((if l.length=0 then 32 else 43)::refT r):=by
 cases l with
 |nil=>simp[refsT]
 |cons a t=>simp[refsT]
structure OutOk (o:Ou):Prop where
 v:0≤o.v∧o.v≤1000000
 n:1≤o.l.length∧o.l.length≤3
 x:0≤o.x∧o.x≤999
 y:0≤o.y∧o.y≤999
 k:∀j,j<o.l.length→0≤o.l.getD j 0∧o.l.getD j 0≤999
structure TxOk (k f:Int) (rs:List (Int×Int)) (os:List Ou):Prop where
 k:k=0∨k=1∨k=2
 f:0≤f∧f≤999
 n:rs.length≤4
 m:os.length≤4
 r:∀j,j<rs.length→(0≤(rs.getD j G0).1∧(rs.getD j G0).1≤999)∧0≤(rs.getD j G0).2∧(rs.getD j G0).2≤999
 o:∀j,j<os.length→OutOk (os.getD j O0)
theorem tail_len {l:List Int} (hk:∀k∈l,k≤999):(tailT l).length≤11*l.length:=by
 induction l with
 |nil=>simp[tailT]
 |cons a t ih=>
  have h1:=dec_len (hk a (by simp))
  have h2:=ih fun k hk'=>hk k (by simp[hk'])
  simp[tailT];omega
theorem rtx_len {o:Ou} (h:OutOk o):(rtxR o.l o.x o.y).length≤100:=by
 have hx:=dec_len h.x.2
 have hy:=dec_len h.y.2
 have hk:∀k∈o.l,k≤999:=fun k hk=>by
  obtain ⟨j,hj,e⟩:=List.getElem_of_mem hk
  have:=(h.k j hj).2
  simpa [List.getD,hj,e] using this
 have hn:=h.n
 have h1:(keysT o.l).length≤11*o.l.length:=by
  cases hl:o.l with
  |nil=>simp[keysT]
  |cons a t=>
   rw[hl] at hk
   have h1:=dec_len (hk a (by simp))
   have h2:=tail_len (l:=t) fun k hk'=>hk k (by simp[hk'])
   simp[keysT];omega
 have h2:(aftT o.y).length≤17:=by unfold aftT;split<;>simp;omega
 unfold rtxR
 simp
 omega
theorem take_next2 {α:Type} {l:List α} {n j:Nat} {d g:α} (hn:l.length=n) (hj:j<n) (hg:g=l.getD j d):l.take (j+1)=l.take j++[g]:=by
 subst hg
 rw[List.take_add_one,List.getElem?_eq_getElem (by omega),List.getD,List.getElem?_eq_getElem (by omega)]
 rfl
set_option maxRecDepth 20000 in
set_option maxHeartbeats 2000000 in
theorem l3Text_any (P n c m d:Nat) (ia oa:Option Addr) (k f:Int) (rs:List (Int×Int)) (os:List Ou) (w:World) (hok:TxOk k f rs os) (h:TxAt w ia n oa m rs os) (hPl:P<w.heap.size)
 (p0:w.cell? ⟨P,0,none⟩=some (.int .i64 k)) (p1:w.cell? ⟨P,1,none⟩=some (.int .i64 f)) (p2:w.cell? ⟨P,2,none⟩=some (.slice ia n c)) (p3:w.cell? ⟨P,3,none⟩=some (.slice oa m d)):
 Calls Tryz.prog 67 #[.pointer (some ⟨P,0,none⟩)] w fun e w'=>e= .returned (.string (str (txT k f rs os)))∧Below w.heap.size w w':=by
 obtain ⟨rt,hrt⟩:∃r,r=txT k f rs os:=⟨_,rfl⟩
 rw[←hrt]
 have HRT:Hid (rt=txT k f rs os):=hrt
 have HT:Hid (TxAt w ia n oa m rs os):=h
 have HOK:Hid (TxOk k f rs os):=hok
 have HN:Hid (rs.length=n):=h.r.1
 have HM:Hid (os.length=m):=h.o.1
 have hn4:n≤4:=by rw[←HN.out];exact hok.n
 have hm4:m≤4:=by rw[←HM.out];exact hok.m
 have hff:=hok.f
 obtain ⟨df,hdf⟩:∃o,o=dec f:=⟨_,rfl⟩
 have hlf:df.length≤10:=by rw[hdf];exact dec_len hff.2
 have hF:∀W,Calls Tryz.prog 116 #[.int .i64 f] W fun e w'=>e= .returned (.string (str df))∧Below W.heap.size W w':=fun W=>by rw[hdf];exact digits_int hff.1 hff.2 W
 have hss:∀z:List UInt8,(str z).size=z.length:=fun _=>rfl
 have happ:∀z r:List UInt8,str z++str r=str (z++r):=str_append
 have hj1:∀r:List UInt8,(⟨#[106,111,105,110,32]⟩:ByteArray)++str r=str ([106,111,105,110,32]++r):=fun r=>str_append [106,111,105,110,32] r
 have hj2:∀r:List UInt8,(⟨#[108,101,97,118,101,32]⟩:ByteArray)++str r=str ([108,101,97,118,101,32]++r):=fun r=>str_append [108,101,97,118,101,32] r
 have HDF:Hid (df=dec f):=hdf
 clear hrt h hok hdf
 have hc32:∀z:List UInt8,str z++⟨#[32]⟩=str (z++[32]):=fun z=>str_append z _
 have hc43:∀z:List UInt8,str z++⟨#[43]⟩=str (z++[43]):=fun z=>str_append z _
 have hc58:∀z:List UInt8,str z++⟨#[58]⟩=str (z++[58]):=fun z=>str_append z _
 have hc61:∀z:List UInt8,str z++⟨#[61]⟩=str (z++[61]):=fun z=>str_append z _
 rcases HOK.out.k with hk0|hk0|hk0
 all_goals subst hk0
 ·go_enter Tryz.func67,Tryz.ntmps67
  go_wp2
  go_loopw [3,4] (fun v i wr=>∃j:Nat,j≤n∧i= .int .i64 j∧∃o:List UInt8,v= .string (str o)∧o.length≤20+22*j∧Hid (o=headT 0 f++refsT (rs.take j))∧Below w.heap.size w wr) (fun _ i _=>n-(intOf i).toNat)
  case atStart=>exact ⟨0,Nat.zero_le _,rfl,[112,97,121],rfl,by simp,by show _=_;simp[headT,kindT,refsT],below_box _⟩
  case round=>
   obtain ⟨j,hj,rfl,o,rfl,hol,HO,hbel⟩:=hrel
   have y2:=(hbel.cell (p:=⟨P,2,none⟩) hPl).trans p2
   have y3:=(hbel.cell (p:=⟨P,3,none⟩) hPl).trans p3
   have hPr:=Nat.lt_of_lt_of_le hPl hbel.size
   by_cases hlt:j<n
   ·rcases HT.out.r.2 with h0|⟨b,off,e0,l0,d0⟩
    ·omega
    subst e0
    obtain ⟨g,hg⟩:∃g,g=rs.getD j G0:=⟨_,rfl⟩
    have hcx:=d0 j hlt
    have hrb:=HOK.out.r j (by rw[HN.out];exact hlt)
    rw[←hg] at hcx hrb
    obtain ⟨g1,g2⟩:=g
    have c0:=(hbel.cell (p:=⟨b,off+j*2,none⟩) l0).trans hcx.1
    have c1:=(hbel.cell (p:=⟨b,off+j*2+1,none⟩) l0).trans hcx.2
    have hbr:=Nat.lt_of_lt_of_le l0 hbel.size
    obtain ⟨d1,hd1⟩:∃o,o=dec g1:=⟨_,rfl⟩
    obtain ⟨d2,hd2⟩:∃o,o=dec g2:=⟨_,rfl⟩
    have hl1:d1.length≤10:=by rw[hd1];exact dec_len hrb.1.2
    have hl2:d2.length≤10:=by rw[hd2];exact dec_len hrb.2.2
    have hA:∀W,Calls Tryz.prog 116 #[.int .i64 g1] W fun e w'=>e= .returned (.string (str d1))∧Below W.heap.size W w':=fun W=>by rw[hd1];exact digits_int hrb.1.1 hrb.1.2 W
    have hB:∀W,Calls Tryz.prog 116 #[.int .i64 g2] W fun e w'=>e= .returned (.string (str d2))∧Below W.heap.size W w':=fun W=>by rw[hd2];exact digits_int hrb.2.1 hrb.2.2 W
    have HG:Hid ((g1,g2)=rs.getD j G0):=hg
    have HD1:Hid (d1=dec g1):=hd1
    have HD2:Hid (d2=dec g2):=hd2
    clear hg hd1 hd2 hrb hcx d0
    have hki:(j:Int)<(n:Int):=by omega
    have hz1:¬9223372036854775807<o.length+1:=by omega
    have hz2:¬9223372036854775807<o.length+1+d1.length:=by omega
    have hz3:¬9223372036854775807<o.length+(d1.length+1)+1:=by omega
    have hz4:¬9223372036854775807<o.length+(d1.length+1+1)+d2.length:=by omega
    by_cases hj0:j=0
    ·
     have hjb:((j:Int)==0)=true:=by simp[hj0]
     have HJ0:Hid (j=0):=hj0
     clear hj0
     go_wp2
     go_region_held3 (fun w'=>w'.cell? ⟨P,2,none⟩=some (.slice (some ⟨b,off,none⟩) n c)∧w'.cell? ⟨b,off+j*2,none⟩=some (.int .i64 g1)∧w'.cell? ⟨b,off+j*2+1,none⟩=some (.int .i64 g2)) (go_keep)
      (first
       |(go_at_call 116;(first
        |(have hA':=hA;(with_reducible refine (hA' _).mono ?_);clear hA hA';rintro e w2 ⟨rfl,hb2⟩;have z2:=(hb2.cell (p:=⟨P,2,none⟩) hPr).trans y2;have z3:=(hb2.cell (p:=⟨b,off+j*2,none⟩) hbr).trans c0;have z4:=(hb2.cell (p:=⟨b,off+j*2+1,none⟩) hbr).trans c1;have hs2:wr.heap.size≤w2.heap.size:=hb2.size)
        |((with_reducible refine (hB _).mono ?_);rintro e w3 ⟨rfl,hb3⟩;have x2:=(hb3.cell (p:=⟨P,2,none⟩) (Nat.lt_of_lt_of_le hPr hs2)).trans z2;have x3:=(hb3.cell (p:=⟨b,off+j*2,none⟩) (Nat.lt_of_lt_of_le hbr hs2)).trans z3;have x4:=(hb3.cell (p:=⟨b,off+j*2+1,none⟩) (Nat.lt_of_lt_of_le hbr hs2)).trans z4))))
     have HB3:Hid (Below w.heap.size w w3):=hbel.trans (((show Below wr.heap.size wr w2 from (Below.refl _ _).drew.trans hb2).trans (hb3.mono hs2)).mono hbel.size)
     go_wp2
     go_roundw
     case rel=>
      refine ⟨j+1,by omega,by go_num,_,rfl,by simp;omega,?_,HB3.out⟩
      show _=_
      rw[take_next2 HN.out hlt HG.out,refsT_snoc,HO.out,HD1.out,HD2.out]
      have e2:(rs.take j).length=j:=by rw[List.length_take,HN.out];omega
      have e3:=HJ0.out
      simp[e3,refT]
     case measure=>simp[intOf];omega
    ·
     have hjb:((j:Int)==0)=false:=by simp[hj0]
     have HJ0:Hid (¬j=0):=hj0
     clear hj0
     go_wp2
     go_region_held3 (fun w'=>w'.cell? ⟨P,2,none⟩=some (.slice (some ⟨b,off,none⟩) n c)∧w'.cell? ⟨b,off+j*2,none⟩=some (.int .i64 g1)∧w'.cell? ⟨b,off+j*2+1,none⟩=some (.int .i64 g2)) (go_keep)
      (first
       |(go_at_call 116;(first
        |(have hA':=hA;(with_reducible refine (hA' _).mono ?_);clear hA hA';rintro e w2 ⟨rfl,hb2⟩;have z2:=(hb2.cell (p:=⟨P,2,none⟩) hPr).trans y2;have z3:=(hb2.cell (p:=⟨b,off+j*2,none⟩) hbr).trans c0;have z4:=(hb2.cell (p:=⟨b,off+j*2+1,none⟩) hbr).trans c1;have hs2:wr.heap.size≤w2.heap.size:=hb2.size)
        |((with_reducible refine (hB _).mono ?_);rintro e w3 ⟨rfl,hb3⟩;have x2:=(hb3.cell (p:=⟨P,2,none⟩) (Nat.lt_of_lt_of_le hPr hs2)).trans z2;have x3:=(hb3.cell (p:=⟨b,off+j*2,none⟩) (Nat.lt_of_lt_of_le hbr hs2)).trans z3;have x4:=(hb3.cell (p:=⟨b,off+j*2+1,none⟩) (Nat.lt_of_lt_of_le hbr hs2)).trans z4))))
     have HB3:Hid (Below w.heap.size w w3):=hbel.trans (((show Below wr.heap.size wr w2 from (Below.refl _ _).drew.trans hb2).trans (hb3.mono hs2)).mono hbel.size)
     go_wp2
     go_roundw
     case rel=>
      refine ⟨j+1,by omega,by go_num,_,rfl,by simp;omega,?_,HB3.out⟩
      show _=_
      rw[take_next2 HN.out hlt HG.out,refsT_snoc,HO.out,HD1.out,HD2.out]
      have e2:(rs.take j).length=j:=by rw[List.length_take,HN.out];omega
      have e3:=HJ0.out
      simp[e2,e3,refT]
     case measure=>simp[intOf];omega
   ·have e1:rs.take j=rs:=List.take_of_length_le (by rw[HN.out];omega)
    have HO2:Hid (o=headT 0 f++refsT rs):=by show _=_;rw[HO.out,e1]
    clear HO e1
    have hol2:o.length≤200:=by omega
    go_wp2
    go_loopw [3,6] (fun v i wr2=>∃q:Nat,q≤m∧i= .int .i64 q∧∃o2:List UInt8,v= .string (str o2)∧o2.length≤200+150*q∧Hid (o2=headT 0 f++refsT rs++(os.take q).flatMap outT)∧Below w.heap.size w wr2) (fun _ i _=>m-(intOf i).toNat)
    case atStart=>exact ⟨0,Nat.zero_le _,rfl,o,rfl,by omega,by show _=_;simp[HO2.out],hbel⟩
    case round=>
     clear y2 y3 hbel HO2 hol hol2 hj hlt hPr
     obtain ⟨q,hq,rfl,o2,rfl,hol,HO,hbel⟩:=hrel
     have y3:=(hbel.cell (p:=⟨P,3,none⟩) hPl).trans p3
     have hPr:=Nat.lt_of_lt_of_le hPl hbel.size
     by_cases hlt:q<m
     ·rcases HT.out.o.2 with h0|⟨b,off,e0,l0,d0⟩
      ·omega
      subst e0
      obtain ⟨u,hu⟩:∃u,u=os.getD q O0:=⟨_,rfl⟩
      have hou:=HOK.out.o q (by rw[HM.out];exact hlt)
      obtain ⟨ka,kn,kc,q0,q1,q2,q3,hkn,hI⟩:=d0 q hlt
      rw[←hu] at hou q0 q2 q3 hI
      have c0:=(hbel.cell (p:=⟨b,off+q*4,none⟩) l0).trans q0
      have hbr:=Nat.lt_of_lt_of_le l0 hbel.size
      obtain ⟨uv,huv⟩:∃z,z=u.v:=⟨_,rfl⟩
      obtain ⟨d1,hd1⟩:∃z,z=dec uv:=⟨_,rfl⟩
      obtain ⟨r1,hr1⟩:∃z,z=rtxR u.l u.x u.y:=⟨_,rfl⟩
      obtain ⟨r2,hr2⟩:∃z,z=r1.map swp:=⟨_,rfl⟩
      have hv:=hou.v
      rw[←huv] at c0 hv
      have hl1:d1.length≤10:=by rw[hd1];exact dec_big hv.2
      have hlr:r1.length≤100:=by rw[hr1];exact rtx_len hou
      have hl2:r2.length≤100:=by rw[hr2];simpa using hlr
      have hA:∀W,Calls Tryz.prog 116 #[.int .i64 uv] W fun e w'=>e= .returned (.string (str d1))∧Below W.heap.size W w':=fun W=>by rw[hd1];exact digits_big hv.1 hv.2 W
      have hB:∀W,Below w.heap.size w W→Calls Tryz.prog 118 #[.pointer (some ⟨b,off+q*4+1,none⟩)] W fun e w'=>e= .returned (.string (str r1))∧Below W.heap.size W w':=fun W hW=>by
       rw[hr1]
       have hkl:=hI.1
       exact l2TextAt_any b (off+q*4+1) kn kc ka u.l u.x u.y W (by rw[←hkl];exact hou.n.1) (by rw[←hkl];exact hou.n.2) hou.x hou.y (by rw[←hkl];exact hou.k) (hI.below hW (Nat.le_refl _)) (Nat.lt_of_lt_of_le l0 hW.size)
        ((hW.cell (p:=⟨b,off+q*4+1,none⟩) l0).trans q1) ((hW.cell (p:=⟨b,off+q*4+2,none⟩) l0).trans q2) ((hW.cell (p:=⟨b,off+q*4+3,none⟩) l0).trans q3)
      have hC:∀W,Calls Tryz.prog 117 #[.string (str r1),.int .u8 32,.int .u8 95] W fun e w'=>e= .returned (.string (str r2))∧Below W.heap.size W w':=fun W=>by rw[hr2];exact l3Swap_any r1 W (by omega)
      have HU:Hid (u=os.getD q O0∧outT u=32::(d1++(61::r2))):=⟨hu,by simp[outT,hd1,huv,hr2,hr1]⟩
      clear hu huv hd1 hr1 hr2 hou d0 q0 q1 q2 q3 hI
      have hki:(q:Int)<(m:Int):=by omega
      have hz1:¬9223372036854775807<o2.length+1:=by omega
      have hz2:¬9223372036854775807<o2.length+1+d1.length:=by omega
      have hz3:¬9223372036854775807<o2.length+(d1.length+1)+1:=by omega
      have hz4:¬9223372036854775807<o2.length+(d1.length+1+1)+r2.length:=by omega
      go_wp2
      go_region_held3 (fun w'=>w'.cell? ⟨P,3,none⟩=some (.slice (some ⟨b,off,none⟩) m d)∧w'.cell? ⟨b,off+q*4,none⟩=some (.int .i64 uv)) (go_keep)
       (first
        |(go_at_call 116;refine (hA _).mono ?_;rintro e w2 ⟨rfl,hb2⟩;have z2:=(hb2.cell (p:=⟨P,3,none⟩) hPr).trans y3;have z3:=(hb2.cell (p:=⟨b,off+q*4,none⟩) hbr).trans c0;have hs2:wr.heap.size≤w2.heap.size:=hb2.size;have HB2:Hid (Below w.heap.size w w2):=hbel.trans ((show Below wr.heap.size wr w2 from (Below.refl _ _).drew.trans hb2).mono hbel.size))
        |(go_at_call 118;refine (hB _ HB2.out).mono ?_;rintro e w3 ⟨rfl,hb3⟩;have x2:=(hb3.cell (p:=⟨P,3,none⟩) (Nat.lt_of_lt_of_le hPr hs2)).trans z2;have x3:=(hb3.cell (p:=⟨b,off+q*4,none⟩) (Nat.lt_of_lt_of_le hbr hs2)).trans z3;have hs3:=Nat.le_trans hs2 hb3.size;have HB3:Hid (Below w.heap.size w w3):=HB2.out.trans (hb3.mono HB2.out.size))
        |(go_at_call 117;refine (hC _).mono ?_;rintro e w4 ⟨rfl,hb4⟩;have v2:=(hb4.cell (p:=⟨P,3,none⟩) (Nat.lt_of_lt_of_le hPr hs3)).trans x2;have v3:=(hb4.cell (p:=⟨b,off+q*4,none⟩) (Nat.lt_of_lt_of_le hbr hs3)).trans x3;have HB4:Hid (Below w.heap.size w w4):=HB3.out.trans (hb4.mono HB3.out.size)))
      go_wp2
      go_roundw
      case rel=>
       refine ⟨q+1,by omega,by go_num,_,rfl,by simp;omega,?_,HB4.out⟩
       show _=_
       rw[take_next2 HM.out hlt HU.out.1,List.flatMap_append,HO.out]
       simp[HU.out.2]
      case measure=>simp[intOf];omega
     ·have e1:os.take q=os:=List.take_of_length_le (by rw[HM.out];omega)
      obtain rfl:rt=o2:=by rw[HRT.out,HO.out,e1];rfl
      clear e1 HO
      go_wp2
      go_ret
      exact ⟨rfl,hbel⟩
 ·go_enter Tryz.func67,Tryz.ntmps67
  go_wp2_with (go_at_call 116;refine (hF _).mono ?_;rintro e w1 ⟨rfl,hb1⟩)
  have hb0:Below w.heap.size w w1:=(below_box _).trans (hb1.mono (by simp))
  clear hb1 hF
  go_loopw [3,4] (fun v i wr=>∃j:Nat,j≤n∧i= .int .i64 j∧∃o:List UInt8,v= .string (str o)∧o.length≤20+22*j∧Hid (o=headT 1 f++refsT (rs.take j))∧Below w.heap.size w wr) (fun _ i _=>n-(intOf i).toNat)
  case atStart=>exact ⟨0,Nat.zero_le _,rfl,106::111::105::110::32::df,rfl,by simp;omega,by show _=_;simp[headT,kindT,refsT,HDF.out],hb0⟩
  case round=>
   obtain ⟨j,hj,rfl,o,rfl,hol,HO,hbel⟩:=hrel
   have y2:=(hbel.cell (p:=⟨P,2,none⟩) hPl).trans p2
   have y3:=(hbel.cell (p:=⟨P,3,none⟩) hPl).trans p3
   have hPr:=Nat.lt_of_lt_of_le hPl hbel.size
   by_cases hlt:j<n
   ·rcases HT.out.r.2 with h0|⟨b,off,e0,l0,d0⟩
    ·omega
    subst e0
    obtain ⟨g,hg⟩:∃g,g=rs.getD j G0:=⟨_,rfl⟩
    have hcx:=d0 j hlt
    have hrb:=HOK.out.r j (by rw[HN.out];exact hlt)
    rw[←hg] at hcx hrb
    obtain ⟨g1,g2⟩:=g
    have c0:=(hbel.cell (p:=⟨b,off+j*2,none⟩) l0).trans hcx.1
    have c1:=(hbel.cell (p:=⟨b,off+j*2+1,none⟩) l0).trans hcx.2
    have hbr:=Nat.lt_of_lt_of_le l0 hbel.size
    obtain ⟨d1,hd1⟩:∃o,o=dec g1:=⟨_,rfl⟩
    obtain ⟨d2,hd2⟩:∃o,o=dec g2:=⟨_,rfl⟩
    have hl1:d1.length≤10:=by rw[hd1];exact dec_len hrb.1.2
    have hl2:d2.length≤10:=by rw[hd2];exact dec_len hrb.2.2
    have hA:∀W,Calls Tryz.prog 116 #[.int .i64 g1] W fun e w'=>e= .returned (.string (str d1))∧Below W.heap.size W w':=fun W=>by rw[hd1];exact digits_int hrb.1.1 hrb.1.2 W
    have hB:∀W,Calls Tryz.prog 116 #[.int .i64 g2] W fun e w'=>e= .returned (.string (str d2))∧Below W.heap.size W w':=fun W=>by rw[hd2];exact digits_int hrb.2.1 hrb.2.2 W
    have HG:Hid ((g1,g2)=rs.getD j G0):=hg
    have HD1:Hid (d1=dec g1):=hd1
    have HD2:Hid (d2=dec g2):=hd2
    clear hg hd1 hd2 hrb hcx d0
    have hki:(j:Int)<(n:Int):=by omega
    have hz1:¬9223372036854775807<o.length+1:=by omega
    have hz2:¬9223372036854775807<o.length+1+d1.length:=by omega
    have hz3:¬9223372036854775807<o.length+(d1.length+1)+1:=by omega
    have hz4:¬9223372036854775807<o.length+(d1.length+1+1)+d2.length:=by omega
    by_cases hj0:j=0
    ·
     have hjb:((j:Int)==0)=true:=by simp[hj0]
     have HJ0:Hid (j=0):=hj0
     clear hj0
     go_wp2
     go_region_held3 (fun w'=>w'.cell? ⟨P,2,none⟩=some (.slice (some ⟨b,off,none⟩) n c)∧w'.cell? ⟨b,off+j*2,none⟩=some (.int .i64 g1)∧w'.cell? ⟨b,off+j*2+1,none⟩=some (.int .i64 g2)) (go_keep)
      (first
       |(go_at_call 116;(first
        |(have hA':=hA;(with_reducible refine (hA' _).mono ?_);clear hA hA';rintro e w2 ⟨rfl,hb2⟩;have z2:=(hb2.cell (p:=⟨P,2,none⟩) hPr).trans y2;have z3:=(hb2.cell (p:=⟨b,off+j*2,none⟩) hbr).trans c0;have z4:=(hb2.cell (p:=⟨b,off+j*2+1,none⟩) hbr).trans c1;have hs2:wr.heap.size≤w2.heap.size:=hb2.size)
        |((with_reducible refine (hB _).mono ?_);rintro e w3 ⟨rfl,hb3⟩;have x2:=(hb3.cell (p:=⟨P,2,none⟩) (Nat.lt_of_lt_of_le hPr hs2)).trans z2;have x3:=(hb3.cell (p:=⟨b,off+j*2,none⟩) (Nat.lt_of_lt_of_le hbr hs2)).trans z3;have x4:=(hb3.cell (p:=⟨b,off+j*2+1,none⟩) (Nat.lt_of_lt_of_le hbr hs2)).trans z4))))
     have HB3:Hid (Below w.heap.size w w3):=hbel.trans (((show Below wr.heap.size wr w2 from (Below.refl _ _).drew.trans hb2).trans (hb3.mono hs2)).mono hbel.size)
     go_wp2
     go_roundw
     case rel=>
      refine ⟨j+1,by omega,by go_num,_,rfl,by simp;omega,?_,HB3.out⟩
      show _=_
      rw[take_next2 HN.out hlt HG.out,refsT_snoc,HO.out,HD1.out,HD2.out]
      have e2:(rs.take j).length=j:=by rw[List.length_take,HN.out];omega
      have e3:=HJ0.out
      simp[e3,refT]
     case measure=>simp[intOf];omega
    ·
     have hjb:((j:Int)==0)=false:=by simp[hj0]
     have HJ0:Hid (¬j=0):=hj0
     clear hj0
     go_wp2
     go_region_held3 (fun w'=>w'.cell? ⟨P,2,none⟩=some (.slice (some ⟨b,off,none⟩) n c)∧w'.cell? ⟨b,off+j*2,none⟩=some (.int .i64 g1)∧w'.cell? ⟨b,off+j*2+1,none⟩=some (.int .i64 g2)) (go_keep)
      (first
       |(go_at_call 116;(first
        |(have hA':=hA;(with_reducible refine (hA' _).mono ?_);clear hA hA';rintro e w2 ⟨rfl,hb2⟩;have z2:=(hb2.cell (p:=⟨P,2,none⟩) hPr).trans y2;have z3:=(hb2.cell (p:=⟨b,off+j*2,none⟩) hbr).trans c0;have z4:=(hb2.cell (p:=⟨b,off+j*2+1,none⟩) hbr).trans c1;have hs2:wr.heap.size≤w2.heap.size:=hb2.size)
        |((with_reducible refine (hB _).mono ?_);rintro e w3 ⟨rfl,hb3⟩;have x2:=(hb3.cell (p:=⟨P,2,none⟩) (Nat.lt_of_lt_of_le hPr hs2)).trans z2;have x3:=(hb3.cell (p:=⟨b,off+j*2,none⟩) (Nat.lt_of_lt_of_le hbr hs2)).trans z3;have x4:=(hb3.cell (p:=⟨b,off+j*2+1,none⟩) (Nat.lt_of_lt_of_le hbr hs2)).trans z4))))
     have HB3:Hid (Below w.heap.size w w3):=hbel.trans (((show Below wr.heap.size wr w2 from (Below.refl _ _).drew.trans hb2).trans (hb3.mono hs2)).mono hbel.size)
     go_wp2
     go_roundw
     case rel=>
      refine ⟨j+1,by omega,by go_num,_,rfl,by simp;omega,?_,HB3.out⟩
      show _=_
      rw[take_next2 HN.out hlt HG.out,refsT_snoc,HO.out,HD1.out,HD2.out]
      have e2:(rs.take j).length=j:=by rw[List.length_take,HN.out];omega
      have e3:=HJ0.out
      simp[e2,e3,refT]
     case measure=>simp[intOf];omega
   ·have e1:rs.take j=rs:=List.take_of_length_le (by rw[HN.out];omega)
    have HO2:Hid (o=headT 1 f++refsT rs):=by show _=_;rw[HO.out,e1]
    clear HO e1
    have hol2:o.length≤200:=by omega
    go_wp2
    go_loopw [3,6] (fun v i wr2=>∃q:Nat,q≤m∧i= .int .i64 q∧∃o2:List UInt8,v= .string (str o2)∧o2.length≤200+150*q∧Hid (o2=headT 1 f++refsT rs++(os.take q).flatMap outT)∧Below w.heap.size w wr2) (fun _ i _=>m-(intOf i).toNat)
    case atStart=>exact ⟨0,Nat.zero_le _,rfl,o,rfl,by omega,by show _=_;simp[HO2.out],hbel⟩
    case round=>
     clear y2 y3 hbel HO2 hol hol2 hj hlt hPr
     obtain ⟨q,hq,rfl,o2,rfl,hol,HO,hbel⟩:=hrel
     have y3:=(hbel.cell (p:=⟨P,3,none⟩) hPl).trans p3
     have hPr:=Nat.lt_of_lt_of_le hPl hbel.size
     by_cases hlt:q<m
     ·rcases HT.out.o.2 with h0|⟨b,off,e0,l0,d0⟩
      ·omega
      subst e0
      obtain ⟨u,hu⟩:∃u,u=os.getD q O0:=⟨_,rfl⟩
      have hou:=HOK.out.o q (by rw[HM.out];exact hlt)
      obtain ⟨ka,kn,kc,q0,q1,q2,q3,hkn,hI⟩:=d0 q hlt
      rw[←hu] at hou q0 q2 q3 hI
      have c0:=(hbel.cell (p:=⟨b,off+q*4,none⟩) l0).trans q0
      have hbr:=Nat.lt_of_lt_of_le l0 hbel.size
      obtain ⟨uv,huv⟩:∃z,z=u.v:=⟨_,rfl⟩
      obtain ⟨d1,hd1⟩:∃z,z=dec uv:=⟨_,rfl⟩
      obtain ⟨r1,hr1⟩:∃z,z=rtxR u.l u.x u.y:=⟨_,rfl⟩
      obtain ⟨r2,hr2⟩:∃z,z=r1.map swp:=⟨_,rfl⟩
      have hv:=hou.v
      rw[←huv] at c0 hv
      have hl1:d1.length≤10:=by rw[hd1];exact dec_big hv.2
      have hlr:r1.length≤100:=by rw[hr1];exact rtx_len hou
      have hl2:r2.length≤100:=by rw[hr2];simpa using hlr
      have hA:∀W,Calls Tryz.prog 116 #[.int .i64 uv] W fun e w'=>e= .returned (.string (str d1))∧Below W.heap.size W w':=fun W=>by rw[hd1];exact digits_big hv.1 hv.2 W
      have hB:∀W,Below w.heap.size w W→Calls Tryz.prog 118 #[.pointer (some ⟨b,off+q*4+1,none⟩)] W fun e w'=>e= .returned (.string (str r1))∧Below W.heap.size W w':=fun W hW=>by
       rw[hr1]
       have hkl:=hI.1
       exact l2TextAt_any b (off+q*4+1) kn kc ka u.l u.x u.y W (by rw[←hkl];exact hou.n.1) (by rw[←hkl];exact hou.n.2) hou.x hou.y (by rw[←hkl];exact hou.k) (hI.below hW (Nat.le_refl _)) (Nat.lt_of_lt_of_le l0 hW.size)
        ((hW.cell (p:=⟨b,off+q*4+1,none⟩) l0).trans q1) ((hW.cell (p:=⟨b,off+q*4+2,none⟩) l0).trans q2) ((hW.cell (p:=⟨b,off+q*4+3,none⟩) l0).trans q3)
      have hC:∀W,Calls Tryz.prog 117 #[.string (str r1),.int .u8 32,.int .u8 95] W fun e w'=>e= .returned (.string (str r2))∧Below W.heap.size W w':=fun W=>by rw[hr2];exact l3Swap_any r1 W (by omega)
      have HU:Hid (u=os.getD q O0∧outT u=32::(d1++(61::r2))):=⟨hu,by simp[outT,hd1,huv,hr2,hr1]⟩
      clear hu huv hd1 hr1 hr2 hou d0 q0 q1 q2 q3 hI
      have hki:(q:Int)<(m:Int):=by omega
      have hz1:¬9223372036854775807<o2.length+1:=by omega
      have hz2:¬9223372036854775807<o2.length+1+d1.length:=by omega
      have hz3:¬9223372036854775807<o2.length+(d1.length+1)+1:=by omega
      have hz4:¬9223372036854775807<o2.length+(d1.length+1+1)+r2.length:=by omega
      go_wp2
      go_region_held3 (fun w'=>w'.cell? ⟨P,3,none⟩=some (.slice (some ⟨b,off,none⟩) m d)∧w'.cell? ⟨b,off+q*4,none⟩=some (.int .i64 uv)) (go_keep)
       (first
        |(go_at_call 116;refine (hA _).mono ?_;rintro e w2 ⟨rfl,hb2⟩;have z2:=(hb2.cell (p:=⟨P,3,none⟩) hPr).trans y3;have z3:=(hb2.cell (p:=⟨b,off+q*4,none⟩) hbr).trans c0;have hs2:wr.heap.size≤w2.heap.size:=hb2.size;have HB2:Hid (Below w.heap.size w w2):=hbel.trans ((show Below wr.heap.size wr w2 from (Below.refl _ _).drew.trans hb2).mono hbel.size))
        |(go_at_call 118;refine (hB _ HB2.out).mono ?_;rintro e w3 ⟨rfl,hb3⟩;have x2:=(hb3.cell (p:=⟨P,3,none⟩) (Nat.lt_of_lt_of_le hPr hs2)).trans z2;have x3:=(hb3.cell (p:=⟨b,off+q*4,none⟩) (Nat.lt_of_lt_of_le hbr hs2)).trans z3;have hs3:=Nat.le_trans hs2 hb3.size;have HB3:Hid (Below w.heap.size w w3):=HB2.out.trans (hb3.mono HB2.out.size))
        |(go_at_call 117;refine (hC _).mono ?_;rintro e w4 ⟨rfl,hb4⟩;have v2:=(hb4.cell (p:=⟨P,3,none⟩) (Nat.lt_of_lt_of_le hPr hs3)).trans x2;have v3:=(hb4.cell (p:=⟨b,off+q*4,none⟩) (Nat.lt_of_lt_of_le hbr hs3)).trans x3;have HB4:Hid (Below w.heap.size w w4):=HB3.out.trans (hb4.mono HB3.out.size)))
      go_wp2
      go_roundw
      case rel=>
       refine ⟨q+1,by omega,by go_num,_,rfl,by simp;omega,?_,HB4.out⟩
       show _=_
       rw[take_next2 HM.out hlt HU.out.1,List.flatMap_append,HO.out]
       simp[HU.out.2]
      case measure=>simp[intOf];omega
     ·have e1:os.take q=os:=List.take_of_length_le (by rw[HM.out];omega)
      obtain rfl:rt=o2:=by rw[HRT.out,HO.out,e1];rfl
      clear e1 HO
      go_wp2
      go_ret
      exact ⟨rfl,hbel⟩
 ·go_enter Tryz.func67,Tryz.ntmps67
  go_wp2_with (go_at_call 116;refine (hF _).mono ?_;rintro e w1 ⟨rfl,hb1⟩)
  have hb0:Below w.heap.size w w1:=(below_box _).trans (hb1.mono (by simp))
  clear hb1 hF
  go_loopw [3,4] (fun v i wr=>∃j:Nat,j≤n∧i= .int .i64 j∧∃o:List UInt8,v= .string (str o)∧o.length≤20+22*j∧Hid (o=headT 2 f++refsT (rs.take j))∧Below w.heap.size w wr) (fun _ i _=>n-(intOf i).toNat)
  case atStart=>exact ⟨0,Nat.zero_le _,rfl,108::101::97::118::101::32::df,rfl,by simp;omega,by show _=_;simp[headT,kindT,refsT,HDF.out],hb0⟩
  case round=>
   obtain ⟨j,hj,rfl,o,rfl,hol,HO,hbel⟩:=hrel
   have y2:=(hbel.cell (p:=⟨P,2,none⟩) hPl).trans p2
   have y3:=(hbel.cell (p:=⟨P,3,none⟩) hPl).trans p3
   have hPr:=Nat.lt_of_lt_of_le hPl hbel.size
   by_cases hlt:j<n
   ·rcases HT.out.r.2 with h0|⟨b,off,e0,l0,d0⟩
    ·omega
    subst e0
    obtain ⟨g,hg⟩:∃g,g=rs.getD j G0:=⟨_,rfl⟩
    have hcx:=d0 j hlt
    have hrb:=HOK.out.r j (by rw[HN.out];exact hlt)
    rw[←hg] at hcx hrb
    obtain ⟨g1,g2⟩:=g
    have c0:=(hbel.cell (p:=⟨b,off+j*2,none⟩) l0).trans hcx.1
    have c1:=(hbel.cell (p:=⟨b,off+j*2+1,none⟩) l0).trans hcx.2
    have hbr:=Nat.lt_of_lt_of_le l0 hbel.size
    obtain ⟨d1,hd1⟩:∃o,o=dec g1:=⟨_,rfl⟩
    obtain ⟨d2,hd2⟩:∃o,o=dec g2:=⟨_,rfl⟩
    have hl1:d1.length≤10:=by rw[hd1];exact dec_len hrb.1.2
    have hl2:d2.length≤10:=by rw[hd2];exact dec_len hrb.2.2
    have hA:∀W,Calls Tryz.prog 116 #[.int .i64 g1] W fun e w'=>e= .returned (.string (str d1))∧Below W.heap.size W w':=fun W=>by rw[hd1];exact digits_int hrb.1.1 hrb.1.2 W
    have hB:∀W,Calls Tryz.prog 116 #[.int .i64 g2] W fun e w'=>e= .returned (.string (str d2))∧Below W.heap.size W w':=fun W=>by rw[hd2];exact digits_int hrb.2.1 hrb.2.2 W
    have HG:Hid ((g1,g2)=rs.getD j G0):=hg
    have HD1:Hid (d1=dec g1):=hd1
    have HD2:Hid (d2=dec g2):=hd2
    clear hg hd1 hd2 hrb hcx d0
    have hki:(j:Int)<(n:Int):=by omega
    have hz1:¬9223372036854775807<o.length+1:=by omega
    have hz2:¬9223372036854775807<o.length+1+d1.length:=by omega
    have hz3:¬9223372036854775807<o.length+(d1.length+1)+1:=by omega
    have hz4:¬9223372036854775807<o.length+(d1.length+1+1)+d2.length:=by omega
    by_cases hj0:j=0
    ·
     have hjb:((j:Int)==0)=true:=by simp[hj0]
     have HJ0:Hid (j=0):=hj0
     clear hj0
     go_wp2
     go_region_held3 (fun w'=>w'.cell? ⟨P,2,none⟩=some (.slice (some ⟨b,off,none⟩) n c)∧w'.cell? ⟨b,off+j*2,none⟩=some (.int .i64 g1)∧w'.cell? ⟨b,off+j*2+1,none⟩=some (.int .i64 g2)) (go_keep)
      (first
       |(go_at_call 116;(first
        |(have hA':=hA;(with_reducible refine (hA' _).mono ?_);clear hA hA';rintro e w2 ⟨rfl,hb2⟩;have z2:=(hb2.cell (p:=⟨P,2,none⟩) hPr).trans y2;have z3:=(hb2.cell (p:=⟨b,off+j*2,none⟩) hbr).trans c0;have z4:=(hb2.cell (p:=⟨b,off+j*2+1,none⟩) hbr).trans c1;have hs2:wr.heap.size≤w2.heap.size:=hb2.size)
        |((with_reducible refine (hB _).mono ?_);rintro e w3 ⟨rfl,hb3⟩;have x2:=(hb3.cell (p:=⟨P,2,none⟩) (Nat.lt_of_lt_of_le hPr hs2)).trans z2;have x3:=(hb3.cell (p:=⟨b,off+j*2,none⟩) (Nat.lt_of_lt_of_le hbr hs2)).trans z3;have x4:=(hb3.cell (p:=⟨b,off+j*2+1,none⟩) (Nat.lt_of_lt_of_le hbr hs2)).trans z4))))
     have HB3:Hid (Below w.heap.size w w3):=hbel.trans (((show Below wr.heap.size wr w2 from (Below.refl _ _).drew.trans hb2).trans (hb3.mono hs2)).mono hbel.size)
     go_wp2
     go_roundw
     case rel=>
      refine ⟨j+1,by omega,by go_num,_,rfl,by simp;omega,?_,HB3.out⟩
      show _=_
      rw[take_next2 HN.out hlt HG.out,refsT_snoc,HO.out,HD1.out,HD2.out]
      have e2:(rs.take j).length=j:=by rw[List.length_take,HN.out];omega
      have e3:=HJ0.out
      simp[e3,refT]
     case measure=>simp[intOf];omega
    ·
     have hjb:((j:Int)==0)=false:=by simp[hj0]
     have HJ0:Hid (¬j=0):=hj0
     clear hj0
     go_wp2
     go_region_held3 (fun w'=>w'.cell? ⟨P,2,none⟩=some (.slice (some ⟨b,off,none⟩) n c)∧w'.cell? ⟨b,off+j*2,none⟩=some (.int .i64 g1)∧w'.cell? ⟨b,off+j*2+1,none⟩=some (.int .i64 g2)) (go_keep)
      (first
       |(go_at_call 116;(first
        |(have hA':=hA;(with_reducible refine (hA' _).mono ?_);clear hA hA';rintro e w2 ⟨rfl,hb2⟩;have z2:=(hb2.cell (p:=⟨P,2,none⟩) hPr).trans y2;have z3:=(hb2.cell (p:=⟨b,off+j*2,none⟩) hbr).trans c0;have z4:=(hb2.cell (p:=⟨b,off+j*2+1,none⟩) hbr).trans c1;have hs2:wr.heap.size≤w2.heap.size:=hb2.size)
        |((with_reducible refine (hB _).mono ?_);rintro e w3 ⟨rfl,hb3⟩;have x2:=(hb3.cell (p:=⟨P,2,none⟩) (Nat.lt_of_lt_of_le hPr hs2)).trans z2;have x3:=(hb3.cell (p:=⟨b,off+j*2,none⟩) (Nat.lt_of_lt_of_le hbr hs2)).trans z3;have x4:=(hb3.cell (p:=⟨b,off+j*2+1,none⟩) (Nat.lt_of_lt_of_le hbr hs2)).trans z4))))
     have HB3:Hid (Below w.heap.size w w3):=hbel.trans (((show Below wr.heap.size wr w2 from (Below.refl _ _).drew.trans hb2).trans (hb3.mono hs2)).mono hbel.size)
     go_wp2
     go_roundw
     case rel=>
      refine ⟨j+1,by omega,by go_num,_,rfl,by simp;omega,?_,HB3.out⟩
      show _=_
      rw[take_next2 HN.out hlt HG.out,refsT_snoc,HO.out,HD1.out,HD2.out]
      have e2:(rs.take j).length=j:=by rw[List.length_take,HN.out];omega
      have e3:=HJ0.out
      simp[e2,e3,refT]
     case measure=>simp[intOf];omega
   ·have e1:rs.take j=rs:=List.take_of_length_le (by rw[HN.out];omega)
    have HO2:Hid (o=headT 2 f++refsT rs):=by show _=_;rw[HO.out,e1]
    clear HO e1
    have hol2:o.length≤200:=by omega
    go_wp2
    go_loopw [3,6] (fun v i wr2=>∃q:Nat,q≤m∧i= .int .i64 q∧∃o2:List UInt8,v= .string (str o2)∧o2.length≤200+150*q∧Hid (o2=headT 2 f++refsT rs++(os.take q).flatMap outT)∧Below w.heap.size w wr2) (fun _ i _=>m-(intOf i).toNat)
    case atStart=>exact ⟨0,Nat.zero_le _,rfl,o,rfl,by omega,by show _=_;simp[HO2.out],hbel⟩
    case round=>
     clear y2 y3 hbel HO2 hol hol2 hj hlt hPr
     obtain ⟨q,hq,rfl,o2,rfl,hol,HO,hbel⟩:=hrel
     have y3:=(hbel.cell (p:=⟨P,3,none⟩) hPl).trans p3
     have hPr:=Nat.lt_of_lt_of_le hPl hbel.size
     by_cases hlt:q<m
     ·rcases HT.out.o.2 with h0|⟨b,off,e0,l0,d0⟩
      ·omega
      subst e0
      obtain ⟨u,hu⟩:∃u,u=os.getD q O0:=⟨_,rfl⟩
      have hou:=HOK.out.o q (by rw[HM.out];exact hlt)
      obtain ⟨ka,kn,kc,q0,q1,q2,q3,hkn,hI⟩:=d0 q hlt
      rw[←hu] at hou q0 q2 q3 hI
      have c0:=(hbel.cell (p:=⟨b,off+q*4,none⟩) l0).trans q0
      have hbr:=Nat.lt_of_lt_of_le l0 hbel.size
      obtain ⟨uv,huv⟩:∃z,z=u.v:=⟨_,rfl⟩
      obtain ⟨d1,hd1⟩:∃z,z=dec uv:=⟨_,rfl⟩
      obtain ⟨r1,hr1⟩:∃z,z=rtxR u.l u.x u.y:=⟨_,rfl⟩
      obtain ⟨r2,hr2⟩:∃z,z=r1.map swp:=⟨_,rfl⟩
      have hv:=hou.v
      rw[←huv] at c0 hv
      have hl1:d1.length≤10:=by rw[hd1];exact dec_big hv.2
      have hlr:r1.length≤100:=by rw[hr1];exact rtx_len hou
      have hl2:r2.length≤100:=by rw[hr2];simpa using hlr
      have hA:∀W,Calls Tryz.prog 116 #[.int .i64 uv] W fun e w'=>e= .returned (.string (str d1))∧Below W.heap.size W w':=fun W=>by rw[hd1];exact digits_big hv.1 hv.2 W
      have hB:∀W,Below w.heap.size w W→Calls Tryz.prog 118 #[.pointer (some ⟨b,off+q*4+1,none⟩)] W fun e w'=>e= .returned (.string (str r1))∧Below W.heap.size W w':=fun W hW=>by
       rw[hr1]
       have hkl:=hI.1
       exact l2TextAt_any b (off+q*4+1) kn kc ka u.l u.x u.y W (by rw[←hkl];exact hou.n.1) (by rw[←hkl];exact hou.n.2) hou.x hou.y (by rw[←hkl];exact hou.k) (hI.below hW (Nat.le_refl _)) (Nat.lt_of_lt_of_le l0 hW.size)
        ((hW.cell (p:=⟨b,off+q*4+1,none⟩) l0).trans q1) ((hW.cell (p:=⟨b,off+q*4+2,none⟩) l0).trans q2) ((hW.cell (p:=⟨b,off+q*4+3,none⟩) l0).trans q3)
      have hC:∀W,Calls Tryz.prog 117 #[.string (str r1),.int .u8 32,.int .u8 95] W fun e w'=>e= .returned (.string (str r2))∧Below W.heap.size W w':=fun W=>by rw[hr2];exact l3Swap_any r1 W (by omega)
      have HU:Hid (u=os.getD q O0∧outT u=32::(d1++(61::r2))):=⟨hu,by simp[outT,hd1,huv,hr2,hr1]⟩
      clear hu huv hd1 hr1 hr2 hou d0 q0 q1 q2 q3 hI
      have hki:(q:Int)<(m:Int):=by omega
      have hz1:¬9223372036854775807<o2.length+1:=by omega
      have hz2:¬9223372036854775807<o2.length+1+d1.length:=by omega
      have hz3:¬9223372036854775807<o2.length+(d1.length+1)+1:=by omega
      have hz4:¬9223372036854775807<o2.length+(d1.length+1+1)+r2.length:=by omega
      go_wp2
      go_region_held3 (fun w'=>w'.cell? ⟨P,3,none⟩=some (.slice (some ⟨b,off,none⟩) m d)∧w'.cell? ⟨b,off+q*4,none⟩=some (.int .i64 uv)) (go_keep)
       (first
        |(go_at_call 116;refine (hA _).mono ?_;rintro e w2 ⟨rfl,hb2⟩;have z2:=(hb2.cell (p:=⟨P,3,none⟩) hPr).trans y3;have z3:=(hb2.cell (p:=⟨b,off+q*4,none⟩) hbr).trans c0;have hs2:wr.heap.size≤w2.heap.size:=hb2.size;have HB2:Hid (Below w.heap.size w w2):=hbel.trans ((show Below wr.heap.size wr w2 from (Below.refl _ _).drew.trans hb2).mono hbel.size))
        |(go_at_call 118;refine (hB _ HB2.out).mono ?_;rintro e w3 ⟨rfl,hb3⟩;have x2:=(hb3.cell (p:=⟨P,3,none⟩) (Nat.lt_of_lt_of_le hPr hs2)).trans z2;have x3:=(hb3.cell (p:=⟨b,off+q*4,none⟩) (Nat.lt_of_lt_of_le hbr hs2)).trans z3;have hs3:=Nat.le_trans hs2 hb3.size;have HB3:Hid (Below w.heap.size w w3):=HB2.out.trans (hb3.mono HB2.out.size))
        |(go_at_call 117;refine (hC _).mono ?_;rintro e w4 ⟨rfl,hb4⟩;have v2:=(hb4.cell (p:=⟨P,3,none⟩) (Nat.lt_of_lt_of_le hPr hs3)).trans x2;have v3:=(hb4.cell (p:=⟨b,off+q*4,none⟩) (Nat.lt_of_lt_of_le hbr hs3)).trans x3;have HB4:Hid (Below w.heap.size w w4):=HB3.out.trans (hb4.mono HB3.out.size)))
      go_wp2
      go_roundw
      case rel=>
       refine ⟨q+1,by omega,by go_num,_,rfl,by simp;omega,?_,HB4.out⟩
       show _=_
       rw[take_next2 HM.out hlt HU.out.1,List.flatMap_append,HO.out]
       simp[HU.out.2]
      case measure=>simp[intOf];omega
     ·have e1:os.take q=os:=List.take_of_length_le (by rw[HM.out];omega)
      obtain rfl:rt=o2:=by rw[HRT.out,HO.out,e1];rfl
      clear e1 HO
      go_wp2
      go_ret
      exact ⟨rfl,hbel⟩
end Go.Proofs.YtagokfoimokniaaGreatDoor
