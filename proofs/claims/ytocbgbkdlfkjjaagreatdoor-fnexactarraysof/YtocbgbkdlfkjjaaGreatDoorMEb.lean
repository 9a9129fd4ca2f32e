/- CONTRACT of the specification's l03Right. -/
import Derived.Test.YtocbgbkdlfkjjaaGreatDoorMDj
set_option maxRecDepth 100000
set_option maxHeartbeats 6400000
namespace Go.Proofs.YtocbgbkdlfkjjaaGreatDoor
open Go.RowKit
open Pl
theorem fldC (z:Int) (s:ByteArray) (w:World):(Instr.field 27 (.agg #[.int .i64 z,.string s]) 0).run Tryz.prog w=.ok (.int .i64 z) w:=by kernel_rfl
theorem sRight_any (k:Int) (s:ByteArray) (m:Int) (kk:List T) (a:Option Addr) (c:Nat) (w:World) (hs:s.size≤maxLen) (hn:kk.length≤maxLen) (hcn:cnt (.node k s m kk)≤1048577) (hk:Kids w 0 a kk) :
 Calls Tryz.prog 47 #[.agg #[.int .i64 k,.string s,.int .i64 m,.slice a kk.length c]] w fun e w'=>e=.returned (.bool (decide ((trb (.node k s m kk)).1=0)))∧Below w.heap.size w w':=by
 have B0:=xaQ ((Below.refl w.heap.size w).alloc (Nat.le_refl _) (.cells #[.int .i64 k,.string s,.int .i64 m,.slice a kk.length c] 31))
 have HC:=xaQ (fun W (hW:Below w.heap.size w W)=>sCheck_any k s m kk a c W hs hn hcn (hk.below hW))
 generalize trb (.node k s m kk)=tr at HC ⊢
 obtain ⟨cd,nm⟩:=tr
 clear hs hn hcn hk
 by_cases h0:cd=0
 ·subst h0
  have hfl:=fldC
  go_enter Tryz.func47,Tryz.ntmps47
  go_wp2_with (go_at_call 11;refine (HC.out _ B0.out).mono ?_;rintro e w1 ⟨rfl,hb1⟩)
  go_ret
  exact ⟨rfl,xbQ B0.out hb1⟩
 ·have h1:(cd == 0)=false:=by simpa using h0
  rw [decide_eq_false h0]
  have hfl:=fldC
  go_enter Tryz.func47,Tryz.ntmps47
  go_wp2_with (go_at_call 11;refine (HC.out _ B0.out).mono ?_;rintro e w1 ⟨rfl,hb1⟩)
  go_ret
  exact ⟨rfl,xbQ B0.out hb1⟩
theorem yZQ {k m:Int} {s:ByteArray} {kk:List T} (h:(trb (.node k s m kk)).1=0):k=40∧s=⟨#[]⟩∧m=0∧∃ (D:List T) (B:T),kk=D++[B]∧D.length≤498∧Dk D∧(∀ t∈D,xeQ t=true):=by
 cases hok:okP (.node k s m kk) with
 | false =>
  unfold trb at h
  rw [hok] at h
  simp at h
 | true =>
  obtain ⟨hk40,hcm,hfm⟩:=zNQ hok
  obtain rfl:k=40:=hk40
  obtain ⟨rfl,rfl,D,B,rfl,hD,_,_,hDf⟩:=zEQ hfm
  refine ⟨rfl,rfl,rfl,D,B,rfl,?_,hD,hDf⟩
  have h1:=ywQ (D++[B])
  simp only [cnt] at hcm
  rw [List.length_append,List.length_singleton] at h1
  omega
end Go.Proofs.YtocbgbkdlfkjjaaGreatDoor
set_option maxRecDepth 100000
namespace Go.Proofs.YtocbgbkdlfkjjaaGreatDoor
open Go.RowKit
open Pl
def declD (L:List T) (kd:Int):List T:=L.filter fun t=>decide (xdQ t=kd)
def declP (t:T) (kd:Int):List T:=if (trb t).1=0 then declD (xXQ t) kd else []
theorem declD_snoc (L:List T) (t:T) (kd:Int):declD (L++[t]) kd=declD L kd++(if xdQ t=kd then [t] else []):=by
 unfold declD
 rw [List.filter_append]
 by_cases h:xdQ t=kd <;> simp [h]
theorem declD_le (L:List T) (kd:Int):(declD L kd).length≤L.length:=List.length_filter_le _ _
def Raws (ts:List T) (cs:List Value):Prop:=cs.length=ts.length * 4∧∀ (i:Nat) (t:T),ts[i]?=some t→cs[i * 4]?=some (.int .i64 (xdQ t))∧cs[i * 4+1]?=some (.string (yHQ t))∧cs[i * 4+2]?=some (.int .i64 (numT t))∧∃ (xa:Option Addr) (n xc:Nat),cs[i * 4+3]?=some (.slice xa n xc)
theorem Raws.snoc {ts:List T} {cs:List Value} (h:Raws ts cs) (t:T) (xa:Option Addr) (n xc:Nat):Raws (ts++[t]) (cs++[.int .i64 (xdQ t),.string (yHQ t),.int .i64 (numT t),.slice xa n xc]):=by
 obtain ⟨hl,hc⟩:=h
 refine ⟨by rw [List.length_append,List.length_append,hl];simp;omega,fun i u hu=>?_⟩
 by_cases hi:i<ts.length
 ·rw [List.getElem?_append_left hi] at hu
  obtain ⟨c0,c1,c2,ya,n',yc,c3⟩:=hc i u hu
  rw [List.getElem?_append_left (by omega),List.getElem?_append_left (by omega),List.getElem?_append_left (by omega),List.getElem?_append_left (by omega)]
  exact ⟨c0,c1,c2,ya,n',yc,c3⟩
 ·have hlt:=(List.getElem?_eq_some_iff.1 hu).1
  rw [List.length_append,List.length_singleton] at hlt
  obtain rfl:i=ts.length:=by omega
  rw [List.getElem?_append_right (Nat.le_refl _),Nat.sub_self] at hu
  obtain rfl:t=u:=by simpa using hu
  rw [List.getElem?_append_right (by omega),List.getElem?_append_right (by omega),List.getElem?_append_right (by omega),List.getElem?_append_right (by omega),hl]
  simp
theorem raw_row {w:World} {B n sc:Nat} {sa:Option Addr} {cs:List Value} (h:w.ownsRow B 31 4 (.slice sa n sc) n cs) (h0:0<n):∃ g,sa=some ⟨g,0,none⟩∧B≤g∧g<w.heap.size∧∀ W,Below w.heap.size w W→∀ (j:Nat) (u:Value),cs[j]?=some u→W.cell? ⟨g,j,none⟩=some u:=by
 rcases h.2 with ⟨e,hz⟩ | ⟨g,cap,cur,e,hb,hg,h1,h2,h3,h4⟩
 ·omega
 ·simp at e
  obtain ⟨rfl,rfl⟩:=e
  have hl:=xiQ hg
  refine ⟨g,rfl,hb,hl,fun W hW j u hu=>?_⟩
  rw [Lib.cell_of_heap ((hW.block g hl).trans hg)]
  rw [← h4,List.getElem?_take] at hu
  split at hu
  ·simpa using hu
  ·cases hu
def DPost (ts:List T) (w:World) (e:Ending) (w':World):Prop:=∃ (ra:Option Addr) (rc:Nat) (cs:List Value),e=.returned (.slice ra ts.length rc)∧w'.ownsRow w.heap.size 31 4 (.slice ra ts.length rc) ts.length cs∧Raws ts cs∧Below w.heap.size w w'
theorem decls_any (k:Int) (s:ByteArray) (m:Int) (kk:List T) (a:Option Addr) (c:Nat) (kd:Int) (w:World) (hs:s.size≤maxLen) (hn:kk.length≤maxLen) (hcap:kk.length≤c) (hc9:c≤maxLen) (hk:Kids w 0 a kk) (htab:Lib.TabIs Tryz.prog w "internal/strconv.uint64pow10" .u64 Lib.pow10Tab)
 (hg:w.cell? ⟨0,0,none⟩=some (.iface 136 (.agg #[.pointer (some ⟨5,59,none⟩)]))):Calls Tryz.prog 51 #[.agg #[.int .i64 k,.string s,.int .i64 m,.slice a kk.length c],.int .i64 kd] w (DPost (declP (.node k s m kk) kd) w):=by
 obtain ⟨gg,hgn⟩:=Option.isSome_iff_exists.1 (show (Tryz.prog.globalNamed "internal/strconv.uint64pow10").isSome=true by kernel_rfl)
 have HC:=xaQ (fun W (hW:Below w.heap.size w W)=>iCheck_any k s m kk a c W hs hn hcap hc9 (hk.below hW) (Joins.tab_stays hgn htab hW (Nat.le_refl _)) ((hW.cell (p:=⟨0,0,none⟩) (World.block_lt_of_cell? w _ hg)).trans hg))
 have B0:=xaQ ((Below.refl w.heap.size w).alloc (Nat.le_refl _) (.cells #[.int .i64 k,.string s,.int .i64 m,.slice a kk.length c] 31))
 have F0:=xaQ (Four.new w k s m a kk.length c 31)
 have HK:=xaQ hk
 by_cases h0:(trb (.node k s m kk)).1=0
 ·have hrp:=yZQ h0
  obtain ⟨L,hL⟩:∃ q,kk=q:=⟨_,rfl⟩
  have hll:kk.length≤1000:=by
   obtain ⟨_,_,_,D,B,e,hl,_⟩:=hrp
   rw [e,List.length_append,List.length_singleton]
   omega
  rw [show declP (.node k s m kk) kd=declD kk kd by unfold declP;rw [if_pos h0];rfl]
  generalize htr:trb (.node k s m kk)=tr at HC h0
  obtain ⟨cd,nm⟩:=tr
  obtain rfl:cd=0:=h0
  obtain ⟨i0,hi0,hz0⟩:=Option.map_eq_some_iff.1 Tryz.info31
  simp only [Prod.mk.injEq] at hz0
  obtain ⟨hz1,hz2,hz3⟩:=hz0
  have HI:=xaQ (show Tryz.prog.info? 31=some i0∧i0.zero=some (.agg #[.int .i64 0,.string ByteArray.empty,.int .i64 0,.slice none 0 0])∧i0.size=4∧i0.bytes=56 from ⟨hi0,hz1,hz2,hz3⟩)
  clear hs hn hcap hc9 hk htab hg hgn hrp hL htr hi0 hz1 hz2 hz3
  have hfl:=fldC
  go_enter Tryz.func51,Tryz.ntmps51
  go_upto_region 3 with (go_at_call 13;refine (HC.out _ B0.out).mono ?_;rintro e w1 ⟨rfl,hb1⟩)
  have B1:=xaQ (xbQ B0.out hb1)
  obtain ⟨p0,p1,p2,p3⟩:=F0.out.below hb1
  have HN1:=xaQ (Below.refl w1.heap.size w1)
  clear hb1
  go_wp2
  clear p0 p1 p2 p3
  go_loopg [5,15] kk.length (fun g s5 s15 wr=>∃ (i:Nat) (ra:Option Addr) (rc:Nat) (cs:List Value),i+g=kk.length∧s15=.int .i64 i∧s5=.slice ra (declD (kk.take i) kd).length rc∧wr.ownsRow w1.heap.size 31 4 (.slice ra (declD (kk.take i) kd).length rc) (declD (kk.take i) kd).length cs∧Raws (declD (kk.take i) kd) cs∧Below w1.heap.size w1 wr)
  case atStart=>exact ⟨0,none,0,[],by omega,rfl,rfl,World.ownsRow_nil _ _ _ _,⟨rfl,fun i t h=>(by simp [declD] at h)⟩,HN1.out⟩
  case round =>
   obtain ⟨i,ra,rc,cs,hig,rfl,rfl,hos,hrw,hbel⟩:=hrel
   have HOS:=xaQ hos
   have HRW:=xaQ hrw
   have HBL:=xaQ hbel
   have hnl:(declD (kk.take i) kd).length≤1000:=by
    have:=declD_le (kk.take i) kd
    rw [List.length_take] at this
    omega
   clear hos hrw HN1
   by_cases hil:i<kk.length
   ·obtain ⟨x,hx⟩:∃ x,kk[i]?=some x:=⟨_,List.getElem?_eq_getElem hil⟩
    have HNS:Hid (declD (kk.take (i+1)) kd=declD (kk.take i) kd++(if xdQ x=kd then [x] else [])):=xaQ (by rw [x4Q hx,declD_snoc])
    have bel:=xbQ B1.out hbel
    obtain ⟨xk,xs,xm,xkk⟩:=x
    obtain ⟨b,o,xa,xc,rfl,c0,c1,c2,c3,_,_,_⟩:=yqQ HK.out bel hx
    have j0:(0:Int)≤(i:Int):=by omega
    have j1:(i:Int)<(kk.length:Int):=by omega
    obtain ⟨g1,rfl⟩:∃ q,gk=q+1:=⟨gk - 1,by omega⟩
    have w3:IntKind.i64.wrap ((i:Int)+1)=(i:Int)+1:=IntWalk.i64_in _ (by omega)
    have hz1:=hbel.size
    have hA:Below wr.heap.size wr (wr.alloc (.cells #[.int .i64 xk,.string xs,.int .i64 xm,.slice xa xkk.length xc] 31)):=(Below.refl _ _).alloc (Nat.le_refl _) _
    have F1:=Four.new wr xk xs xm xa xkk.length xc 31
    obtain ⟨Y,hY⟩:∃ q,wr.heap.size=q:=⟨_,rfl⟩
    obtain ⟨w5,hw5⟩:∃ q,wr.alloc (.cells #[.int .i64 xk,.string xs,.int .i64 xm,.slice xa xkk.length xc] 31)=q:=⟨_,rfl⟩
    rw [hw5] at hA F1
    rw [hY] at F1
    obtain ⟨q0,q1,q2,q3⟩:=F1
    have HA:=xaQ hA
    obtain ⟨NL,hNL⟩:∃ q,declD (kk.take i) kd=q:=⟨_,rfl⟩
    rw [hNL] at HOS HNS HRW hnl
    rw [hNL]
    clear hx hbel bel hA hNL
    by_cases hkd:xk=kd
    ·subst hkd
     rw [show (if xdQ (T.node xk xs xm xkk)=xk then [T.node xk xs xm xkk] else [])=[T.node xk xs xm xkk] from if_pos rfl] at HNS
     have O5:=xaQ (zpQ HOS.out HA.out)
     have OW:=xaQ (World.ownsRow.alloc O5.out (.cells #[.int .i64 xk,.string xs,.int .i64 xm,.slice xa xkk.length xc] 31))
     have hz5:=HA.out.size
     have hz15:=(xbQ HBL.out HA.out).size
     go_wp2_with (first | (at_builtin;refine wpList_append_lies _ rfl _ _ _ rfl w1.heap.size 31 i0 _ 4 56 Tryz.underlying29 HI.out.1 HI.out.2.1 HI.out.2.2.1 HI.out.2.2.2 rfl (by decide) _ _ _ rfl OW.out ⟨w5.heap.size,0,none⟩ 1 1 [.int .i64 xk,.string xs,.int .i64 xm,.slice xa xkk.length xc] rfl rfl (World.news_of_block (heap_alloc_new w5 _)) (fun u hu=>by simp at hu;rcases hu with rfl | rfl | rfl | rfl <;> rfl) (by decide) (by unfold maxLen;omega) (by omega) (by simp;omega) (w5.heap.size+1) (by simp) ?_;intro g cq w4 hown hgrow hat hlt4) | go_in)
     clear hw5 hY
     have HOW:Hid (w4.ownsRow w1.heap.size 31 4 (.slice (some ⟨g,0,none⟩) (NL++[T.node xk xs xm xkk]).length cq) (NL++[T.node xk xs xm xkk]).length (cs++[.int .i64 xk,.string xs,.int .i64 xm,.slice xa xkk.length xc])):=xaQ (by rw [List.length_append];exact hown)
     have HRW2:=xaQ (HRW.out.snoc (.node xk xs xm xkk) xa xkk.length xc)
     have HB4:Hid (Below w1.heap.size w1 w4):=xaQ (by
      have b5:=xbQ HBL.out HA.out
      exact (b5.alloc b5.size (.cells #[.int .i64 xk,.string xs,.int .i64 xm,.slice xa xkk.length xc] 31)).grown hgrow (Nat.le_trans b5.size (by simp)) (fun q e=>(World.ownsRow.lt HOS.out q e).1))
     clear hown hgrow hat OW
     go_wp2
     go_roundg g1
     case rel=>exact ⟨i+1,_,_,_,by omega,by simp,by rw [HNS.out,List.length_append];rfl,by rw [HNS.out];exact HOW.out,by rw [HNS.out];exact HRW2.out,HB4.out⟩
     case measure=>omega
    ·have hk0:(xk == kd)=false:=by simpa using hkd
     rw [show (if xdQ (T.node xk xs xm xkk)=kd then [T.node xk xs xm xkk] else [])=[] from if_neg hkd,List.append_nil] at HNS
     go_wp2_with fail
     first | rw [hw5] | skip
     first | rw [hY] | skip
     clear hw5 hY
     go_wp2
     go_roundg g1
     case rel=>exact ⟨i+1,ra,rc,cs,by omega,by simp,by rw [HNS.out],by rw [HNS.out];exact zpQ HOS.out HA.out,by rw [HNS.out];exact HRW.out,xbQ HBL.out HA.out⟩
     case measure=>omega
   ·have hik:i=kk.length:=by omega
    subst hik
    have j1:¬ (kk.length:Int)<(kk.length:Int):=by omega
    rw [List.take_length] at HOS HRW ⊢
    go_wp2
    go_ret
    exact ⟨_,_,cs,rfl,ownsRow_mono HOS.out B1.out.size,HRW.out,xbQ B1.out HBL.out⟩
 ·rw [show declP (.node k s m kk) kd=[] by unfold declP;rw [if_neg h0]]
  generalize trb (.node k s m kk)=tr at HC h0
  obtain ⟨cd,nm⟩:=tr
  have h1:(cd == 0)=false:=by simpa using h0
  clear hs hn hcap hc9 hk htab hg hgn
  have hfl:=fldC
  go_enter Tryz.func51,Tryz.ntmps51
  go_wp2_with (go_at_call 13;refine (HC.out _ B0.out).mono ?_;rintro e w1 ⟨rfl,hb1⟩)
  go_ret
  exact ⟨none,0,[],rfl,World.ownsRow_nil _ _ _ _,⟨rfl,fun i t h=>(by cases h)⟩,xbQ B0.out hb1⟩
end Go.Proofs.YtocbgbkdlfkjjaaGreatDoor
