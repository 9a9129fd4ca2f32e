/- CONTRACTS of the printer's indent; a printer that goes further in. -/
import Derived.Test.YtocbgbkdlfkjjaaGreatDoorMHk
import Derived.Test.YtocbgbkdlfkjjaaGreatDoorMHr
import Derived.Test.YtocbgbkdlfkjjaaGreatDoorMHo
set_option maxRecDepth 100000
set_option maxHeartbeats 4000000
namespace Go.Proofs.YtocbgbkdlfkjjaaGreatDoor
open Go.RowKit
open Pl
def padL (n:Nat):List UInt8:=List.replicate (2 * n) 32
def padB (n:Nat):ByteArray:=⟨(padL n).toArray⟩
theorem padL_succ (n:Nat):padL (n+1)=padL n++[32,32]:=by
 unfold padL
 rw [show 2 * (n+1)=2 * n+2 by omega,← List.replicate_append_replicate]
 rfl
theorem xlQ (n:Nat):(padL n).length=2 * n:=by unfold padL;simp
theorem x9Q (n:Nat):(padB n).data.toList=padL n:=by unfold padB;simp
theorem padB_succ (n:Nat):padB (n+1)=padB n++⟨#[32,32]⟩:=by
 apply ByteArray.ext
 apply Array.ext'
 rw [x9Q,padL_succ,xgQ,x9Q]
theorem padB_zero:padB 0=⟨#[]⟩:=rfl
theorem padB_size (n:Nat):(padB n).size=2 * n:=by rw [Lib.size_eq,x9Q,xlQ]
theorem IsPr.deep {dp:Int} {B b:Nat} {bs:List Value} {w:World} (h:IsPr dp B b bs w):w.cell? ⟨b,2,none⟩=some (.int .i64 dp)∧w.frozen? ⟨b,2,none⟩=false:=by
 rcases h with ⟨_,v,hb,_⟩ | ⟨_,v,hb,_⟩
 ·exact ⟨by rw [Lib.cell_of_heap hb];rfl,Lib.frozen_of_heap hb 2⟩
 ·exact ⟨by rw [Lib.cell_of_heap hb];rfl,Lib.frozen_of_heap hb 2⟩
theorem PrAt.setDeep {dp:Int} {B b:Nat} {p:Value} {bs:List Value} {w:World} (h:PrAt dp B b p bs w) (d2:Int):PrAt d2 B b p bs (w.setCell ⟨b,2,none⟩ (.int .i64 d2)):=by
 obtain ⟨hB,v,hb,hown,hne⟩:=h
 refine ⟨hB,v,?_,?_,hne⟩
 ·simp [World.setCell,Array.getElem?_modify,hb]
 ·exact hown.kept (row:=some b) ⟨rfl,rfl,rfl,by simp [World.setCell],fun k _ hk=>Below.heap_setCell _ _ _ _ (fun e=>hk (by simp [e]))⟩ (Or.inr hne)
theorem IsPr.setDeep {dp:Int} {B b:Nat} {bs:List Value} {w:World} (h:IsPr dp B b bs w) (d2:Int):IsPr d2 B b bs (w.setCell ⟨b,2,none⟩ (.int .i64 d2)):=h.elim (fun x=>.inl (x.setDeep d2)) (fun x=>.inr (x.setDeep d2))
theorem IsPr.ge {dp:Int} {B b:Nat} {bs:List Value} {w:World} (h:IsPr dp B b bs w):B≤b:=h.elim (fun x=>x.1) (fun x=>x.1)
theorem Around.setDeep {W0:World} {dp:Int} {B b:Nat} {l:List UInt8} {w:World} (h:Around W0 dp B b l w) (d2:Int):Around W0 d2 B b l (w.setCell ⟨b,2,none⟩ (.int .i64 d2)) :=
 ⟨h.pr.setDeep d2,h.old.setCell (p:=⟨b,2,none⟩) (Nat.le_trans h.lo h.pr.ge) _,h.lo,Nat.le_trans h.hi (by simp [World.setCell]),h.tab⟩
theorem indent_any (W0:World) (n:Nat) (B b:Nat) (l:List UInt8) (w:World) (h:Around W0 (n:Int) B b l w) (hn:n≤1000) (hl:l.length+2 * n≤100000000000000):Calls Tryz.prog 150 #[.pointer (some ⟨b,0,none⟩)] w (Wrote (n:Int) B b (l++padL n) w):=by
 obtain ⟨d0,_⟩:=h.pr.deep
 have H:=xaQ h
 clear h
 go_enter Tryz.func150,Tryz.ntmps150
 go_wp2
 go_loopw [6] (fun i w'=>∃ (j:Nat),j≤n∧i=.int .i64 j∧Around W0 (n:Int) B b (l++padL j) w'∧Below B w w'∧Lib.OthersKept 5 (some b) w w') (fun i _=>n - (intOf i).toNat)
 case atStart=>exact ⟨0,Nat.zero_le _,rfl,by simpa [padL] using H.out,Below.refl _ _,Lib.OthersKept.refl _ _ _⟩
 case round =>
  obtain ⟨j,hj,rfl,h1,h2,h3⟩:=hrel
  have H1:=xaQ h1
  have H2:=xaQ h2
  have H3:=xaQ h3
  clear h1 h2 h3
  by_cases hlt:j<n
  ·go_wp2_with fail
   refine (xKQ W0 _ B b _ [⟨#[32,32]⟩] #[.string ⟨#[32,32]⟩] _ _ rfl H1.out (by rw [List.length_append,xlQ];simp [cat];omega) (by simp) rfl).mono ?_
   rintro e w2 ⟨rfl,hp,hb,hk⟩
   have A2:=xaQ (show Around W0 (n:Int) B b (l++padL (j+1)) w2 from by
    rw [padL_succ,← List.append_assoc]
    exact H1.out.step hp hb)
   have K2:=xaQ (H2.out.trans hb)
   have O2:=xaQ (H3.out.trans hk)
   clear hp hb hk
   go_wp2
   go_roundw
   case rel=>exact ⟨j+1,by omega,by go_num,A2.out,K2.out,O2.out⟩
   case measure=>simp [intOf];omega
  ·have e:j=n:=by omega
   subst e
   go_wp2
   go_end0
   exact ⟨rfl,H1.out.pr,H2.out,H3.out⟩
def inT (t:T) (n:Nat):List UInt8:=((lnS t (padB n)).data.toList.drop (2 * n)).dropLast
theorem inT_of {t:T} {n:Nat} {l:List UInt8} (h:(lnS t (padB n)).data.toList=padL n++l++[10]):inT t n=l:=by
 unfold inT
 rw [h,List.append_assoc,List.drop_append_of_le_length (by rw [xlQ];exact Nat.le_refl _),List.drop_of_length_le (by rw [xlQ];exact Nat.le_refl _),List.nil_append,List.dropLast_concat]
def PLn (t:T):Prop:=match t with
 | .node k s m kk=>∀ (W0:World) (n:Nat) (B b:Nat) (l:List UInt8) (a:Option Addr) (c:Nat) (w:World),cnt t≤500→2 * n+2 * dep t≤1000→Kids W0 0 a kk→Around W0 (n:Int) B b l w→l.length+(inT t n).length≤100000000000000 →
  Calls Tryz.prog 151 #[.pointer (some ⟨b,0,none⟩),.agg #[.int .i64 k,.string s,.int .i64 m,.slice a kk.length c]] w (Wrote (n:Int) B b (l++inT t n) w)
def GoodI (t:T):Prop:=GoodS t∨GoodD t
def Apart (t:T):Prop:=∀ n:Nat,(lnS t (padB n)).data.toList=padL n++inT t n++[10]
theorem Apart.size {t:T} (h:Apart t) (n:Nat):(lnS t (padB n)).size=2 * n+(inT t n).length+1:=by
 rw [Lib.size_eq,h n]
 simp [xlQ]
 omega
theorem cat_len (kk:List T) (p:ByteArray) (j:Nat):(catS ((lnSs kk p).take j)).size≤(catS (lnSs kk p)).size:=by
 have:lnSs kk p=(lnSs kk p).take j++(lnSs kk p).drop j:=(List.take_append_drop _ _).symm
 conv=>rhs;rw [this]
 rw [catS_app,ByteArray.size_append]
 omega
theorem lines_of (kk:List T) (b0 o c:Nat) (IH:∀ t∈kk,PLn t∧Apart t) (W0:World) (n:Nat) (B b:Nat) (l:List UInt8) (w:World) (hc:∀ t∈kk,cnt t≤500) (hd:∀ t∈kk,2 * n+2 * dep t≤1000) (hn:n≤1000) (hm:kk.length≤1000000) (hk:LiesL W0 0 kk b0 o) (har:Around W0 (n:Int) B b l w)
    (hl:l.length+(catS (lnSs kk (padB n))).size≤100000000000000):Calls Tryz.prog 130 #[.pointer (some ⟨b,0,none⟩),.slice (some ⟨b0,o,none⟩) kk.length c] w (Wrote (n:Int) B b (l++(catS (lnSs kk (padB n))).data.toList) w):=by
 have HI:=xaQ IH
 have HC:=xaQ hc
 have HD:=xaQ hd
 have HK:=xaQ hk
 have HA:=xaQ har
 have HL:=xaQ hl
 have HG:=xaQ (show catS (lnSs kk (padB n))=catS ((lnSs kk (padB n)).take kk.length) from by rw [List.take_of_length_le (by rw [lnSs_len];exact Nat.le_refl _)])
 clear IH hc hd hk har hl
 go_enter Tryz.func130,Tryz.ntmps130
 go_wp2
 go_loopw [8] (fun i w'=>∃ (j:Nat),j≤kk.length∧i=.int .i64 j∧Around W0 (n:Int) B b (l++(catS ((lnSs kk (padB n)).take j)).data.toList) w'∧Below B w w'∧Lib.OthersKept 5 (some b) w w') (fun i _=>kk.length - (intOf i).toNat)
 case atStart=>exact ⟨0,Nat.zero_le _,rfl,by simpa [catS] using HA.out,Below.refl _ _,Lib.OthersKept.refl _ _ _⟩
 case round =>
  obtain ⟨j,hj,rfl,h1,h2,h3⟩:=hrel
  have H1:=xaQ h1
  have H2:=xaQ h2
  have H3:=xaQ h3
  clear h1 h2 h3 HA
  by_cases hlt:j<kk.length
  ·obtain ⟨x,hx⟩:∃ x,kk[j]?=some x:=⟨_,List.getElem?_eq_getElem hlt⟩
   have hxm:=List.mem_of_getElem? hx
   have HST:=xaQ (cat_step hx (padB n))
   have hap:=(HI.out x hxm).2
   have HAP:=xaQ (hap n)
   have hsz:=hap.size n
   have hbnd:l.length+(catS ((lnSs kk (padB n)).take j)).size+(2 * n+(inT x n).length+1)≤100000000000000:=by
    have e1:=cat_len kk (padB n) (j+1)
    rw [HST.out,ByteArray.size_append,hsz] at e1
    have e2:=HL.out
    omega
   have hq:(catS ((lnSs kk (padB n)).take j)).data.toList.length=(catS ((lnSs kk (padB n)).take j)).size:=(Lib.size_eq _).symm
   have HX:=xaQ (And.intro (HI.out x hxm).1 (And.intro (HC.out x hxm) (HD.out x hxm)))
   obtain ⟨xk,xs,xm,xkk⟩:=x
   obtain ⟨xa,xc,hc0,hc1,hc2,hc3,hs,hkn,hkids⟩:=HK.out.at hx
   have hbw:b0<W0.heap.size:=World.block_lt_of_cell? W0 _ hc0
   have q0:=(H1.out.old.cell (p:=⟨b0,_,none⟩) hbw).trans hc0
   have q1:=(H1.out.old.cell (p:=⟨b0,_,none⟩) hbw).trans hc1
   have q2:=(H1.out.old.cell (p:=⟨b0,_,none⟩) hbw).trans hc2
   have q3:=(H1.out.old.cell (p:=⟨b0,_,none⟩) hbw).trans hc3
   have HKX:=xaQ hkids
   have i0:(0:Int)≤(j:Int):=by omega
   have i1:(j:Int)<(kk.length:Int):=by omega
   have A1:=xaQ (H1.out.alloc (.cells #[.int .i64 xk,.string xs,.int .i64 xm,.slice xa xkk.length xc] 31))
   have X1:=xaQ (World.heap_alloc_new wr #[.int .i64 xk,.string xs,.int .i64 xm,.slice xa xkk.length xc] 31)
   have hnb:wr.heap.size≠b:=by have:=H1.out.pr.lt;omega
   have K1:=xaQ (H2.out.trans ((Below.refl B wr).alloc H1.out.hi (.cells #[.int .i64 xk,.string xs,.int .i64 xm,.slice xa xkk.length xc] 31)))
   have O1:=xaQ (H3.out.trans ((Lib.OthersKept.refl 5 (some b) wr).alloc (.cells #[.int .i64 xk,.string xs,.int .i64 xm,.slice xa xkk.length xc] 31)))
   clear hx hxm hap hs hkn hkids hc0 hc1 hc2 hc3 hbw H1 H2 H3
   generalize catS ((lnSs kk (padB n)).take j)=Q at HST hbnd hq A1
   go_wp2_with fail
   refine (indent_any W0 n B b _ _ A1.out hn (by rw [List.length_append];omega)).mono ?_
   rintro e w2 ⟨rfl,hp,hb,hk2⟩
   have A2:=xaQ (A1.out.step hp hb)
   have X2:=xaQ (xpQ X1.out hnb hk2)
   have K2:=xaQ (K1.out.trans hb)
   have O2:=xaQ (O1.out.trans hk2)
   clear hp hb hk2 A1 X1 K1 O1 q0 q1 q2 q3
   obtain ⟨x0,x1,x2,x3,_⟩:=xcQ X2.out
   go_wp2_with fail
   refine (HX.out.1 W0 n B b _ xa xc _ HX.out.2.1 HX.out.2.2 HKX.out A2.out (by rw [List.length_append,List.length_append,xlQ];omega)).mono ?_
   rintro e w3 ⟨rfl,hp,hb,hk2⟩
   have A3:=xaQ (A2.out.step hp hb)
   have K3:=xaQ (K2.out.trans hb)
   have O3:=xaQ (O2.out.trans hk2)
   clear hp hb hk2 A2 X2 K2 O2 x0 x1 x2 x3
   go_wp2_with fail
   refine (xKQ W0 _ B b _ [⟨#[10]⟩] #[.string ⟨#[10]⟩] _ _ rfl A3.out (by rw [show (cat [(⟨#[10]⟩:ByteArray)]).length=1 from rfl,List.length_append,List.length_append,List.length_append,xlQ];omega) (by simp) rfl).mono ?_
   rintro e w4 ⟨rfl,hp,hb,hk2⟩
   have A4:=xaQ (show Around W0 (n:Int) B b (l++(catS ((lnSs kk (padB n)).take (j+1))).data.toList) w4 from by
    have:=A3.out.step hp hb
    rw [HST.out,xgQ,HAP.out]
    simp only [cat,List.flatMap_cons,List.flatMap_nil,List.append_nil,List.append_assoc] at this ⊢
    exact this)
   have K4:=xaQ (K3.out.trans hb)
   have O4:=xaQ (O3.out.trans hk2)
   clear hp hb hk2 A3 K3 O3
   go_wp2
   go_roundw
   case rel=>exact ⟨j+1,by omega,by go_num,A4.out,K4.out,O4.out⟩
   case measure=>simp [intOf];omega
  ·have e:j=kk.length:=by omega
   subst e
   have hp:=H1.out.pr
   rw [← HG.out] at hp
   have HP:=xaQ hp
   clear hp
   go_wp2
   go_end0
   exact ⟨rfl,HP.out,H2.out,H3.out⟩
theorem lines_nil (a:Option Addr) (c:Nat) (W0:World) (n:Nat) (B b:Nat) (l:List UInt8) (w:World) (har:Around W0 (n:Int) B b l w):Calls Tryz.prog 130 #[.pointer (some ⟨b,0,none⟩),.slice a 0 c] w (Wrote (n:Int) B b l w):=by
 have HP:=xaQ har.pr
 clear har
 go_enter Tryz.func130,Tryz.ntmps130
 go_wp2
 go_loopw [8] (fun i w'=>i=.int .i64 0∧w'=w) (fun i _=>0)
 case atStart=>exact ⟨rfl,rfl⟩
 case round =>
  obtain ⟨rfl,rfl⟩:=hrel
  go_wp2
  go_end0
  exact ⟨rfl,HP.out,Below.refl _ _,Lib.OthersKept.refl _ _ _⟩
theorem lines_any (kk:List T) (a:Option Addr) (c:Nat) (IH:∀ t∈kk,PLn t∧Apart t) (W0:World) (n:Nat) (B b:Nat) (l:List UInt8) (w:World) (hc:∀ t∈kk,cnt t≤500) (hd:∀ t∈kk,2 * n+2 * dep t≤1000) (hn:n≤1000) (hm:kk.length≤1000000) (hk:Kids W0 0 a kk) (har:Around W0 (n:Int) B b l w)
    (hl:l.length+(catS (lnSs kk (padB n))).size≤100000000000000):Calls Tryz.prog 130 #[.pointer (some ⟨b,0,none⟩),.slice a kk.length c] w (Wrote (n:Int) B b (l++(catS (lnSs kk (padB n))).data.toList) w):=by
 rcases hk with rfl | ⟨b0,o,rfl,_,hl2⟩
 ·have:=lines_nil a c W0 n B b l w har
  simpa [lnSs,catS] using this
 ·exact lines_of kk b0 o c IH W0 n B b l w hc hd hn hm hl2 har hl
theorem block_any (s:ByteArray) (m:Int) (kk:List T) (a:Option Addr) (c:Nat) (IH:∀ t∈kk,PLn t∧Apart t) (W0:World) (n:Nat) (B b:Nat) (l:List UInt8) (w:World) (hc:∀ t∈kk,cnt t≤500) (hd:∀ t∈kk,2 * (n+1)+2 * dep t≤1000) (hn:n≤900) (hm:kk.length≤1000000) (hk:Kids W0 0 a kk) (har:Around W0 (n:Int) B b l w)
    (hl:l.length+(catS (lnSs kk (padB (n+1)))).size+2 * n+4≤100000000000000):Calls Tryz.prog 163 #[.pointer (some ⟨b,0,none⟩),.agg #[.int .i64 30,.string s,.int .i64 m,.slice a kk.length c]] w (Wrote (n:Int) B b (l++([32,123,10]++(catS (lnSs kk (padB (n+1)))).data.toList++padL n++[125])) w):=by
 have hq:(catS (lnSs kk (padB (n+1)))).data.toList.length=(catS (lnSs kk (padB (n+1)))).size:=(Lib.size_eq _).symm
 have HLS:=xaQ (fun l w har hl=>lines_any kk a c IH W0 (n+1) B b l w hc hd (by omega) hm hk har hl)
 generalize catS (lnSs kk (padB (n+1)))=Q at hq hl HLS ⊢
 have A1:=xaQ (har.alloc (.cells #[.int .i64 30,.string s,.int .i64 m,.slice a kk.length c] 31))
 have X1:=xaQ (World.heap_alloc_new w #[.int .i64 30,.string s,.int .i64 m,.slice a kk.length c] 31)
 have hnb:w.heap.size≠b:=by have:=har.pr.lt;omega
 have K1:=xaQ ((Below.refl B w).alloc har.hi (.cells #[.int .i64 30,.string s,.int .i64 m,.slice a kk.length c] 31))
 have O1:=xaQ ((Lib.OthersKept.refl 5 (some b) w).alloc (.cells #[.int .i64 30,.string s,.int .i64 m,.slice a kk.length c] 31))
 clear har hk IH hc hd
 go_enter Tryz.func163,Tryz.ntmps163
 go_wp2_with fail
 refine (xKQ W0 _ B b _ [⟨#[32,123,10]⟩] #[.string ⟨#[32,123,10]⟩] _ _ (by simp) A1.out (by simp [cat];omega) (by simp) rfl).mono ?_
 rintro e w2 ⟨rfl,hp,hb,hk2⟩
 have A2:=xaQ (A1.out.step hp hb)
 have X2:=xaQ (xpQ X1.out hnb hk2)
 have K2:=xaQ (K1.out.trans hb)
 have O2:=xaQ (O1.out.trans hk2)
 obtain ⟨d2,f2⟩:=A2.out.pr.deep
 have B3:=A2.out.setDeep ((n+1:Nat):Int)
 have hcast:((n+1:Nat):Int)=(n:Int)+1:=by omega
 have A3:=xaQ B3
 have X3:=xaQ ((Below.heap_setCell w2 ⟨b,2,none⟩ (.int .i64 ((n+1:Nat):Int)) w.heap.size hnb).trans X2.out)
 have K3:=xaQ (K2.out.setCell (p:=⟨b,2,none⟩) A2.out.pr.ge (.int .i64 ((n+1:Nat):Int)))
 have O3:=xaQ (O2.out.setCell ⟨b,2,none⟩ rfl (.int .i64 ((n+1:Nat):Int)))
 obtain ⟨x0,x1,x2,x3,_⟩:=xcQ X2.out
 have ne1:¬ (b=w.heap.size):=fun e=>hnb e.symm
 clear hp hb hk2 A1 X1 K1 O1 B3
 go_wp2_with fail
 rw [← hcast]
 refine (HLS.out _ _ A3.out (by rw [List.length_append];simp [cat];omega)).mono ?_
 rintro e w4 ⟨rfl,hp,hb,hk2⟩
 have A4:=xaQ (A3.out.step hp hb)
 have K4:=xaQ (K3.out.trans hb)
 have O4:=xaQ (O3.out.trans hk2)
 obtain ⟨d4,f4⟩:=A4.out.pr.deep
 have A5:=xaQ (A4.out.setDeep (n:Int))
 have K5:=xaQ (K4.out.setCell (p:=⟨b,2,none⟩) A4.out.pr.ge (.int .i64 (n:Int)))
 have O5:=xaQ (O4.out.setCell ⟨b,2,none⟩ rfl (.int .i64 (n:Int)))
 have hw1:IntKind.i64.wrap (((n+1:Nat):Int) - 1)=(n:Int):=by rw [IntKind.wrap_i64];omega
 clear hp hb hk2 A2 X2 K2 O2 A3 X3 K3 O3 A4 K4 O4 x0 x1 x2 x3 d2 f2 hcast
 go_wp2_with fail
 refine (indent_any W0 n B b _ _ A5.out (by omega) (by rw [List.length_append,List.length_append];simp [cat];omega)).mono ?_
 rintro e w6 ⟨rfl,hp,hb,hk2⟩
 have A6:=xaQ (A5.out.step hp hb)
 have K6:=xaQ (K5.out.trans hb)
 have O6:=xaQ (O5.out.trans hk2)
 clear hp hb hk2 A5 K5 O5 d4 f4
 go_wp2_with fail
 refine (xKQ W0 _ B b _ [⟨#[125]⟩] #[.string ⟨#[125]⟩] _ _ rfl A6.out (by rw [List.length_append,List.length_append,List.length_append,xlQ];simp [cat];omega) (by simp) rfl).mono ?_
 rintro e w7 ⟨rfl,hp,hb,hk2⟩
 have M1:=xaQ (show IsPr (n:Int) B b (Lib.byteCells (l++([32,123,10]++Q.data.toList++padL n++[125]))) w7 from by
  have:=hp
  simp only [cat,List.flatMap_cons,List.flatMap_nil,List.append_nil,List.append_assoc] at this ⊢
  exact this)
 have M2:=xaQ (K6.out.trans hb)
 have M3:=xaQ (O6.out.trans hk2)
 clear hp hb hk2 A6 K6 O6
 go_wp2
 go_end0
 exact ⟨rfl,M1.out,M2.out,M3.out⟩
end Go.Proofs.YtocbgbkdlfkjjaaGreatDoor
