/- TREES IN MEMORY THAT A COPY MADE. -/
import Derived.Test.YtocbgbkdlfkjjaaGreatDoorMHb
import Derived.Test.YtocbgbkdlfkjjaaGreatDoorMHh
import Derived.Test.YtocbgbkdlfkjjaaGreatDoorMHm
import Derived.Lib.Strings
import Derived.WideShapes
set_option maxRecDepth 100000
set_option maxHeartbeats 1000000
namespace Go.Proofs.YtocbgbkdlfkjjaaGreatDoor
open Go.RowKit
mutual
def Lies0 (w:World) (lo:Nat):T→Nat→Nat→Prop
 | .node k s m kk,b,off=>w.cell? ⟨b,off,none⟩=some (.int .i64 k)∧w.cell? ⟨b,off+1,none⟩=some (.string s)∧w.cell? ⟨b,off+2,none⟩=some (.int .i64 m) ∧
   s.size≤maxLen∧kk.length≤maxLen∧∃ (a:Option Addr) (c:Nat),w.cell? ⟨b,off+3,none⟩=some (.slice a kk.length c)∧kk.length≤c∧c≤maxLen ∧
   (kk=[]∨∃ b',a=some ⟨b',0,none⟩∧lo≤b'∧(∀ o,w.frozen? ⟨b',o,none⟩=false)∧Lies0L w lo kk b' 0)
def Lies0L (w:World) (lo:Nat):List T→Nat→Nat→Prop
 | [],_,_=>True
 | t :: r,b,off=>Lies0 w lo t b off∧Lies0L w lo r b (off+4)
end
def Kids0 (w:World) (lo:Nat) (a:Option Addr) (kk:List T):Prop:=kk=[]∨∃ b',a=some ⟨b',0,none⟩∧lo≤b'∧(∀ o,w.frozen? ⟨b',o,none⟩=false)∧Lies0L w lo kk b' 0
theorem Lies0L.get {w:World} {lo b:Nat}:∀ {ks:List T} {off i:Nat} {t:T},Lies0L w lo ks b off→ks[i]?=some t→Lies0 w lo t b (off+i * 4)
 | [],_,_,_,_,h=>by simp at h
 | x :: r,off,0,t,h,ht=>by
   simp at ht
   subst ht
   unfold Lies0L at h
   simpa using h.1
 | x :: r,off,i+1,t,h,ht=>by
   unfold Lies0L at h
   simp at ht
   have:=Lies0L.get h.2 ht
   rwa [show off+4+i * 4=off+(i+1) * 4 by omega] at this
theorem Lies0L.of {w:World} {lo b:Nat}:∀ {ks:List T} {off:Nat},(∀ i t,ks[i]?=some t→Lies0 w lo t b (off+i * 4))→Lies0L w lo ks b off
 | [],_,_=>by unfold Lies0L;trivial
 | x :: r,off,h=>by
   unfold Lies0L
   refine ⟨by simpa using h 0 x rfl,Lies0L.of fun i t ht=>?_⟩
   have:=h (i+1) t (by simpa using ht)
   rwa [show off+(i+1) * 4=off+4+i * 4 by omega] at this
theorem Lies0.lt {w:World} {lo:Nat} {t:T} {b off:Nat} (h:Lies0 w lo t b off):b<w.heap.size:=by
 cases t
 unfold Lies0 at h
 exact World.block_lt_of_cell? w _ h.1
mutual
theorem Lies0.stay {w w':World} {lo:Nat} (h:∀ b o,lo≤b→b<w.heap.size→w'.cell? ⟨b,o,none⟩=w.cell? ⟨b,o,none⟩∧w'.frozen? ⟨b,o,none⟩=w.frozen? ⟨b,o,none⟩):∀ (t:T) (b off:Nat),(∀ o,off≤o→o<off+4→w'.cell? ⟨b,o,none⟩=w.cell? ⟨b,o,none⟩)→Lies0 w lo t b off→Lies0 w' lo t b off
 | .node k s m kk,b,off,hb,hl=>by
   unfold Lies0 at hl ⊢
   obtain ⟨h0,h1,h2,hs,hn,a,c,h3,hc1,hc2,hk⟩:=hl
   refine ⟨(hb _ (by omega) (by omega)).trans h0,(hb _ (by omega) (by omega)).trans h1,(hb _ (by omega) (by omega)).trans h2,hs,hn,a,c,(hb _ (by omega) (by omega)).trans h3,hc1,hc2,?_⟩
   rcases hk with hk | ⟨b',e,hlo,hf,hk⟩
   ·exact .inl hk
   ·cases hkk:kk with
    | nil=>exact .inl rfl
    | cons x r =>
      have hb':b'<w.heap.size:=by
       rw [hkk] at hk
       unfold Lies0L at hk
       exact hk.1.lt
      rw [← hkk]
      exact .inr ⟨b',e,hlo,fun o=>(h b' o hlo hb').2.trans (hf o),Lies0L.stay h kk b' 0 hlo hk⟩
theorem Lies0L.stay {w w':World} {lo:Nat} (h:∀ b o,lo≤b→b<w.heap.size→w'.cell? ⟨b,o,none⟩=w.cell? ⟨b,o,none⟩∧w'.frozen? ⟨b,o,none⟩=w.frozen? ⟨b,o,none⟩):∀ (ks:List T) (b off:Nat),lo≤b→Lies0L w lo ks b off→Lies0L w' lo ks b off
 | [],_,_,_,_=>by unfold Lies0L;trivial
 | t :: r,b,off,hb,hl=>by
   unfold Lies0L at hl ⊢
   exact ⟨Lies0.stay h t b off (fun o _ _=>(h b o hb hl.1.lt).1) hl.1,Lies0L.stay h r b (off+4) hb hl.2⟩
end
mutual
theorem Lies0.lower {w:World} {lo lo':Nat} (h:lo'≤lo):∀ (t:T) (b off:Nat),Lies0 w lo t b off→Lies0 w lo' t b off
 | .node k s m kk,b,off,hl=>by
   unfold Lies0 at hl ⊢
   obtain ⟨h0,h1,h2,hs,hn,a,c,h3,hc1,hc2,hk⟩:=hl
   refine ⟨h0,h1,h2,hs,hn,a,c,h3,hc1,hc2,?_⟩
   rcases hk with hk | ⟨b',e,hlo,hf,hk⟩
   ·exact .inl hk
   ·exact .inr ⟨b',e,Nat.le_trans h hlo,hf,Lies0L.lower h kk b' 0 hk⟩
theorem Lies0L.lower {w:World} {lo lo':Nat} (h:lo'≤lo):∀ (ks:List T) (b off:Nat),Lies0L w lo ks b off→Lies0L w lo' ks b off
 | [],_,_,_=>by unfold Lies0L;trivial
 | t :: r,b,off,hl=>by
   unfold Lies0L at hl ⊢
   exact ⟨Lies0.lower h t b off hl.1,Lies0L.lower h r b (off+4) hl.2⟩
end
mutual
theorem Lies0.plain {w:World} {lo:Nat}:∀ (t:T) (b off:Nat),Lies0 w lo t b off→Lies w lo t b off
 | .node k s m kk,b,off,hl=>by
   unfold Lies0 at hl
   unfold Lies
   obtain ⟨h0,h1,h2,hs,hn,a,c,h3,hc1,hc2,hk⟩:=hl
   refine ⟨h0,h1,h2,hs,hn,a,c,h3,?_⟩
   rcases hk with hk | ⟨b',e,hlo,hf,hk⟩
   ·exact .inl hk
   ·exact .inr ⟨b',0,e,hlo,Lies0L.plain kk b' 0 hk⟩
theorem Lies0L.plain {w:World} {lo:Nat}:∀ (ks:List T) (b off:Nat),Lies0L w lo ks b off→LiesL w lo ks b off
 | [],_,_,_=>by unfold LiesL;trivial
 | t :: r,b,off,hl=>by
   unfold Lies0L at hl
   unfold LiesL
   exact ⟨Lies0.plain t b off hl.1,Lies0L.plain r b (off+4) hl.2⟩
end
theorem Kids0.stay {w w':World} {lo:Nat} (h:∀ b o,lo≤b→b<w.heap.size→w'.cell? ⟨b,o,none⟩=w.cell? ⟨b,o,none⟩∧w'.frozen? ⟨b,o,none⟩=w.frozen? ⟨b,o,none⟩) {a:Option Addr} {kk:List T} (hk:Kids0 w lo a kk):Kids0 w' lo a kk:=by
 rcases hk with hk | ⟨b',e,hlo,hf,hk⟩
 ·exact .inl hk
 ·cases hkk:kk with
  | nil=>exact .inl rfl
  | cons x r =>
    have hb':b'<w.heap.size:=by
     rw [hkk] at hk
     unfold Lies0L at hk
     exact hk.1.lt
    rw [← hkk]
    exact .inr ⟨b',e,hlo,fun o=>(h b' o hlo hb').2.trans (hf o),Lies0L.stay h kk b' 0 hlo hk⟩
theorem Kids0.lower {w:World} {lo lo':Nat} (h:lo'≤lo) {a:Option Addr} {kk:List T} (hk:Kids0 w lo a kk):Kids0 w lo' a kk:=by
 rcases hk with hk | ⟨b',e,hlo,hf,hk⟩
 ·exact .inl hk
 ·exact .inr ⟨b',e,Nat.le_trans h hlo,hf,Lies0L.lower h kk b' 0 hk⟩
theorem Kids0.plain {w:World} {lo:Nat} {a:Option Addr} {kk:List T} (hk:Kids0 w lo a kk):Kids w lo a kk:=by
 rcases hk with hk | ⟨b',e,hlo,hf,hk⟩
 ·exact .inl hk
 ·exact .inr ⟨b',0,e,hlo,Lies0L.plain kk b' 0 hk⟩
theorem below_both {w w':World} (hb:Below w.heap.size w w') (b o:Nat) (h:b<w.heap.size):w'.cell? ⟨b,o,none⟩=w.cell? ⟨b,o,none⟩∧w'.frozen? ⟨b,o,none⟩=w.frozen? ⟨b,o,none⟩:=⟨hb.cell (p:=⟨b,o,none⟩) h,hb.frozen (p:=⟨b,o,none⟩) h⟩
theorem Kids0.below {w w':World} {lo:Nat} {a:Option Addr} {kk:List T} (hk:Kids0 w lo a kk) (hb:Below w.heap.size w w'):Kids0 w' lo a kk:=hk.stay fun b o _ h=>below_both hb b o h
end Go.Proofs.YtocbgbkdlfkjjaaGreatDoor
set_option maxRecDepth 100000
namespace Go.Proofs.YtocbgbkdlfkjjaaGreatDoor
open Go.RowKit
def ToOkQ (t:T):Prop:=match t with
 | .node k s m kk=>∀ (a:Option Addr) (c:Nat) (w:World),bulk t≤1048576→Kids w 0 a kk →
   Calls Tryz.prog 12 #[.agg #[.int .i64 k,.string s,.int .i64 m,.slice a kk.length c]] w fun e w' =>
    (∃ a' c',e=.returned (.agg #[.int .i64 k,.string s,.int .i64 m,.slice a' kk.length c'])∧Kids0 w' w.heap.size a' kk∧kk.length≤c'∧c'≤maxLen)∧Below w.heap.size w w'
theorem four_both {w:World} {g o:Nat} {v0 v1 v2 v3:Value} {b j:Nat} (h:b≠g) :
    ((((w.setCell ⟨g,o,none⟩ v0).setCell ⟨g,o+1,none⟩ v1).setCell ⟨g,o+2,none⟩ v2).setCell ⟨g,o+3,none⟩ v3).cell? ⟨b,j,none⟩=w.cell? ⟨b,j,none⟩ ∧
    ((((w.setCell ⟨g,o,none⟩ v0).setCell ⟨g,o+1,none⟩ v1).setCell ⟨g,o+2,none⟩ v2).setCell ⟨g,o+3,none⟩ v3).frozen? ⟨b,j,none⟩=w.frozen? ⟨b,j,none⟩ :=
 ⟨four_stay (.inl h),by simp⟩
theorem toNodeS_ofQ (kk:List T) (IH:∀ t∈kk,ToOkQ t) (b off c:Nat) (w:World) (hn:kk.length+bulks kk≤1048576) (hl:LiesL w 0 kk b off) :
    Calls Tryz.prog 42 #[.slice (some ⟨b,off,none⟩) kk.length c] w fun e w' =>
     (∃ a' c',e=.returned (.slice a' kk.length c')∧Kids0 w' w.heap.size a' kk∧kk.length≤c'∧c'≤maxLen)∧Below w.heap.size w w':=by
 obtain ⟨i0,hi,hz⟩:=Option.map_eq_some_iff.1 Tryz.info31
 simp only [Prod.mk.injEq] at hz
 obtain ⟨hz0,hz1,hz2⟩:=hz
 obtain ⟨w1,hmk,hown0,hg0⟩:=run_make_full (P:=Tryz.prog) w w.heap.size 29 31 i0 _ 4 Tryz.underlying29 hi hz0 hz1 .i64 .i64 kk.length (by rw [hz2];omega) (by unfold maxLen;omega) (Nat.le_refl _)
 have hsz:kk.length≤1048576:=by omega
 have HN:=xaQ hn
 have HL:=xaQ hl
 have HI:=xaQ IH
 have HO:=xaQ hown0
 have HG:=xaQ (Below.grown (Below.refl w.heap.size w) hg0 (Nat.le_refl _) (fun k hk=>by cases hk))
 clear hl hown0 hg0 hi hz0 hz1 hz2 IH hn
 go_enter Tryz.func42,Tryz.ntmps42
 go_wp2
 go_loopw [4] (fun i w'=>∃ (k:Nat) (xs:List Value),k≤kk.length∧i=.int .i64 k∧w'.ownsRow w.heap.size 31 4 (.slice (some ⟨w.heap.size,0,none⟩) kk.length kk.length) kk.length xs ∧
  (∀ j t,j<k→kk[j]?=some t→Lies0 w' (w.heap.size+1) t w.heap.size (j * 4))∧Below w.heap.size w w') (fun i _=>kk.length - (intOf i).toNat)
 case atStart=>exact ⟨0,_,Nat.zero_le _,rfl,HO.out,fun j t hj=>by omega,HG.out⟩
 case round =>
  obtain ⟨k,xs,hk,rfl,hown,hdone,hbel⟩:=hrel
  have HW:=xaQ hown
  have HD:=xaQ hdone
  have HB:=xaQ hbel
  clear hown hdone hbel HO HG hmk
  by_cases hlt:k<kk.length
  ·obtain ⟨x,hx⟩:∃ x,kk[k]?=some x:=⟨_,List.getElem?_eq_getElem hlt⟩
   have HX:=xaQ hx
   obtain ⟨xk,xs',xm,xkk⟩:=x
   obtain ⟨xa,xc,hc0,hc1,hc2,hc3,hs,hkn,hkids⟩:=(HL.out.below (Nat.zero_le _) HB.out).at hx
   have HC:=xaQ (HI.out _ (List.mem_of_getElem? hx) xa xc wr (by have:=bulk_mem (List.mem_of_getElem? hx);have:=HN.out;omega) hkids)
   have HS:=xaQ (And.intro hs hkn)
   have hgr:w.heap.size<wr.heap.size:=by
    obtain ⟨_,h | ⟨g,cap,cur,h,_,hg,_⟩⟩:=HW.out
    ·cases h.1
    ·simp at h
     obtain ⟨⟨rfl⟩,_⟩:=h
     exact (Array.getElem?_eq_some_iff.1 hg).1
   have HGR:=xaQ hgr
   clear hx hs hkn hkids hgr
   go_wp2_with fail
   refine HC.out.mono ?_
   rintro e w2 ⟨⟨a',c',rfl,hk',hcap⟩,hb2⟩
   have HCP:=xaQ hcap
   clear hcap
   have HK:=xaQ hk'
   have HW2:=xaQ (zpQ HW.out hb2)
   have HD2:Hid (∀ j t,j<k→kk[j]?=some t→Lies0 w2 (w.heap.size+1) t w.heap.size (j * 4)):=xaQ fun j t hj ht=>Lies0.stay (fun b o _ h=>below_both hb2 b o h) t _ _ (fun o _ _=>hb2.cell (p:=⟨_,o,none⟩) HGR.out) (HD.out j t hj ht)
   have HB2:=xaQ (HB.out.trans (hb2.mono HB.out.size))
   clear hb2 hc0 hc1 hc2 hc3 hk' HC HD
   have hxl:=HW2.out.1
   obtain ⟨v0,c0⟩:∃ v,w2.cell? ⟨w.heap.size,k * 4,none⟩=some v:=⟨_,(HW2.out.cellAt (k * 4) (by omega)).trans (List.getElem?_eq_getElem (by omega))⟩
   obtain ⟨v1,c1⟩:∃ v,w2.cell? ⟨w.heap.size,k * 4+1,none⟩=some v:=⟨_,(HW2.out.cellAt (k * 4+1) (by omega)).trans (List.getElem?_eq_getElem (by omega))⟩
   obtain ⟨v2,c2⟩:∃ v,w2.cell? ⟨w.heap.size,k * 4+1+1,none⟩=some v:=⟨_,(HW2.out.cellAt (k * 4+1+1) (by omega)).trans (List.getElem?_eq_getElem (by omega))⟩
   obtain ⟨v3,c3⟩:∃ v,w2.cell? ⟨w.heap.size,k * 4+1+1+1,none⟩=some v:=⟨_,(HW2.out.cellAt (k * 4+1+1+1) (by omega)).trans (List.getElem?_eq_getElem (by omega))⟩
   clear hxl
   have f0:=HW2.out.frozenAt (k * 4)
   have f1:=HW2.out.frozenAt (k * 4+1)
   have f2:=HW2.out.frozenAt (k * 4+1+1)
   have f3:=HW2.out.frozenAt (k * 4+1+1+1)
   go_wp2
   go_roundw
   case rel =>
    have O1:=(((((HW2.out.stored (k * 4) (.int .i64 xk)).1).stored (k * 4+1) (.string xs')).1.stored (k * 4+2) (.int .i64 xm)).1.stored (k * 4+3) (.slice a' xkk.length c')).1
    refine ⟨k+1,_,by omega,by go_num,O1,fun j t hj ht=>?_,(((HB2.out.setCell (p:=⟨w.heap.size,k * 4,none⟩) (Nat.le_refl _) _).setCell (p:=⟨w.heap.size,k * 4+1,none⟩) (Nat.le_refl _) _).setCell (p:=⟨w.heap.size,k * 4+2,none⟩) (Nat.le_refl _) _).setCell (p:=⟨w.heap.size,k * 4+3,none⟩) (Nat.le_refl _) _⟩
    have hlen:=HW2.out.1
    rcases (by omega:j<k∨j=k) with hjk | rfl
    ·exact Lies0.stay (fun b o hb _=>four_both (by omega)) t _ _ (fun o _ _=>four_stay (.inr (.inl (by omega)))) (HD2.out j t hjk ht)
    ·have e:=HX.out.symm.trans ht
     simp only [Option.some.injEq] at e
     subst e
     unfold Lies0
     refine ⟨(O1.cellAt (j * 4) (by omega)).trans ?_,(O1.cellAt (j * 4+1) (by omega)).trans ?_,(O1.cellAt (j * 4+2) (by omega)).trans ?_,HS.out.1,HS.out.2,a',c',(O1.cellAt (j * 4+3) (by omega)).trans ?_,HCP.out.1,HCP.out.2,?_⟩
     ·simp [List.getElem?_set];omega
     ·simp [List.getElem?_set];omega
     ·simp [List.getElem?_set];omega
     ·simp [List.getElem?_set];omega
     ·exact ((HK.out.lower (show w.heap.size+1≤wr.heap.size from HGR.out)).stay (fun b o hb _=>four_both (by omega)))
   case measure=>simp [intOf];omega
  ·go_wp2
   go_ret
   have e:k=kk.length:=by omega
   subst e
   refine ⟨⟨_,_,rfl,.inr ⟨_,rfl,Nat.le_refl _,HW.out.frozenAt,Lies0L.of fun i t ht=>?_⟩,Nat.le_refl _,by unfold maxLen;omega⟩,HB.out⟩
   rw [Nat.zero_add]
   exact Lies0.lower (Nat.le_succ _) _ _ _ (HD.out i t (List.getElem?_eq_some_iff.1 ht).1 ht)
theorem toNodeS_nilQ (a:Option Addr) (c:Nat) (w:World):Calls Tryz.prog 42 #[.slice a 0 c] w fun e w'=>(∃ a' c',e=.returned (.slice a' 0 c')∧c'≤maxLen)∧Below w.heap.size w w':=by
 obtain ⟨i0,hi,hz⟩:=Option.map_eq_some_iff.1 Tryz.info31
 simp only [Prod.mk.injEq] at hz
 obtain ⟨hz0,hz1,hz2⟩:=hz
 obtain ⟨w1,hmk,hown0,hg0⟩:=run_make_full (P:=Tryz.prog) w w.heap.size 29 31 i0 _ 4 Tryz.underlying29 hi hz0 hz1 .i64 .i64 0 (by rw [hz2];omega) (by unfold maxLen;omega) (Nat.le_refl _)
 have HG:=xaQ (Below.grown (Below.refl w.heap.size w) hg0 (Nat.le_refl _) (fun k hk=>by cases hk))
 clear hown0 hg0 hi hz0 hz1 hz2
 simp only [Int.natCast_zero] at hmk
 go_enter Tryz.func42,Tryz.ntmps42
 go_wp2
 go_loopw [4] (fun i w'=>i=.int .i64 0∧Below w.heap.size w w') (fun i _=>0)
 case atStart=>exact ⟨rfl,HG.out⟩
 case round =>
  obtain ⟨rfl,hb⟩:=hrel
  have HB:=xaQ hb
  clear hb HG hmk
  go_wp2
  go_ret
  exact ⟨⟨_,_,rfl,Nat.zero_le _⟩,HB.out⟩
theorem toNodeS_kidsQ (kk:List T) (IH:∀ t∈kk,ToOkQ t) (a:Option Addr) (c:Nat) (w:World) (hn:kk.length+bulks kk≤1048576) (hl:Kids w 0 a kk) :
    Calls Tryz.prog 42 #[.slice a kk.length c] w fun e w'=>(∃ a' c',e=.returned (.slice a' kk.length c')∧Kids0 w' w.heap.size a' kk∧kk.length≤c'∧c'≤maxLen)∧Below w.heap.size w w':=by
 rcases hl with rfl | ⟨b,o,rfl,_,hl⟩
 ·refine (toNodeS_nilQ a c w).mono ?_
  rintro e w' ⟨⟨a',c',rfl,hc⟩,hb⟩
  exact ⟨⟨a',c',rfl,.inl rfl,Nat.zero_le _,hc⟩,hb⟩
 ·exact toNodeS_ofQ kk IH b o c w hn hl
theorem ygQ (t:T):ToOkQ t:=by
 refine T.induct ?_ t
 intro k s m kk IH a c w hn hk
 have HN:=xaQ (show kk.length+bulks kk≤1048576 by rw [bulk_node] at hn;omega)
 have HI:=xaQ IH
 have HK:=xaQ hk
 clear hn IH hk
 go_enter Tryz.func12,Tryz.ntmps12
 go_wp2_with fail
 refine (toNodeS_kidsQ kk HI.out a c _ HN.out (HK.out.below ((((Below.refl w.heap.size w).alloc (Nat.le_refl _) _).alloc (by simp) _).alloc (by simp;omega) _))).mono ?_
 rintro e w1 ⟨⟨a',c',rfl,hk',hcap⟩,hb1⟩
 have HCP:=xaQ hcap
 clear hcap
 obtain ⟨hc,hf⟩:=ykQ hb1
 have HK':=xaQ (hk'.lower (lo':=w.heap.size+3) (by simp))
 have HB:=xaQ (xbQ ((((Below.refl w.heap.size w).alloc (Nat.le_refl _) _).alloc (by simp) _).alloc (by simp;omega) _) hb1)
 clear hk' hb1
 have c0:=(hc (w.heap.size+1+1) 0 (by simp)).trans (show _=some (Value.int .i64 k) by simp [go_sem])
 have c1:=(hc (w.heap.size+1+1) 1 (by simp)).trans (show _=some (Value.string s) by simp [go_sem])
 have c2:=(hc (w.heap.size+1+1) 2 (by simp)).trans (show _=some (Value.int .i64 m) by simp [go_sem])
 have c3:=(hc (w.heap.size+1+1) 3 (by simp)).trans (show _=some (Value.slice none 0 0) by simp [go_sem])
 have f3:=(hf (w.heap.size+1+1) 3 (by simp)).trans (show _=false by simp [go_sem])
 have d0:=(hc (w.heap.size+1) 0 (by simp)).trans (show _=some (Value.int .i64 0) by simp [go_sem])
 have g0:=(hf (w.heap.size+1) 0 (by simp)).trans (show _=false by simp [go_sem])
 have d1:=(hc (w.heap.size+1) 1 (by simp)).trans (show _=some (Value.string ⟨#[]⟩) by simp [go_sem])
 have g1:=(hf (w.heap.size+1) 1 (by simp)).trans (show _=false by simp [go_sem])
 have d2:=(hc (w.heap.size+1) 2 (by simp)).trans (show _=some (Value.int .i64 0) by simp [go_sem])
 have g2:=(hf (w.heap.size+1) 2 (by simp)).trans (show _=false by simp [go_sem])
 have d3:=(hc (w.heap.size+1) 3 (by simp)).trans (show _=some (Value.slice none 0 0) by simp [go_sem])
 have g3:=(hf (w.heap.size+1) 3 (by simp)).trans (show _=false by simp [go_sem])
 clear hc hf
 go_wp2
 refine bodyPost_ret (v:=.agg #[.int .i64 k,.string s,.int .i64 m,.slice a' kk.length c']) (by simp [results,Tryz.results12,go_sem,d0,d1,d2,d3]) rfl ⟨⟨a',c',rfl,?_,HCP.out⟩,?_⟩
 ·refine (HK'.out.stay fun b o hb _=>⟨?_,by simp⟩).lower (by omega)
  rw [World.cell?_setCell_far _ _ _ _ (by simp;omega),World.cell?_setCell_far _ _ _ _ (by simp;omega),World.cell?_setCell_far _ _ _ _ (by simp;omega),World.cell?_setCell_far _ _ _ _ (by simp;omega),World.cell?_setCell_far _ _ _ _ (by simp;omega)]
 ·exact ((((HB.out.setCell (p:=⟨w.heap.size+1+1,3,none⟩) (by simp;omega) _).setCell (p:=⟨w.heap.size+1,0,none⟩) (by simp) _).setCell (p:=⟨w.heap.size+1,1,none⟩) (by simp) _).setCell (p:=⟨w.heap.size+1,2,none⟩) (by simp) _).setCell (p:=⟨w.heap.size+1,3,none⟩) (by simp) _
end Go.Proofs.YtocbgbkdlfkjjaaGreatDoor
set_option maxRecDepth 100000
namespace Go.Proofs.YtocbgbkdlfkjjaaGreatDoor
open Go.RowKit
def mtF:Nat→Nat→List UInt8→List UInt8
 | 0,_,o=>o
 | f+1,k,o=>if k=0 then o else mtF f (k / 10) ((48+k % 10).toUInt8 :: o)
theorem mtF_fuel (f g k:Nat) (o:List UInt8) (hf:k≤f) (hg:k≤g):mtF f k o=mtF g k o:=by
 induction f generalizing g k o with
 | zero =>
   have:k=0:=by omega
   subst this
   cases g <;> simp [mtF]
 | succ f ih =>
   cases g with
   | zero => have:k=0:=by omega
             subst this;simp [mtF]
   | succ g =>
     simp only [mtF]
     by_cases h:k=0
     ·simp [h]
     ·rw [if_neg h,if_neg h];exact ih g _ _ (by omega) (by omega)
theorem mtF_step (k:Nat) (o:List UInt8) (h:k≠0):mtF k k o=mtF (k / 10) (k / 10) ((48+k % 10).toUInt8 :: o):=by
 obtain ⟨f,hf⟩:∃ f,k=f+1:=⟨k - 1,by omega⟩
 conv=>lhs;rw [show mtF k k o=mtF (f+1) k o by rw [← hf]]
 simp only [mtF]
 rw [if_neg h]
 exact mtF_fuel _ _ _ _ (by omega) (Nat.le_refl _)
def mtI (k:Nat):ByteArray:=⟨(109 :: mtF k k []).toArray⟩
theorem conv_oneQ (j:Nat) (w:World):Sem.run Tryz.prog (convert 110 9 (.slice (some ⟨w.heap.size,0,none⟩) 1 1)) (w.alloc (.cells #[.int .u8 (48+(j:Int) % 10)] 5)) =
    .ok (.string ⟨#[(48+j % 10).toUInt8]⟩) (w.alloc (.cells #[.int .u8 (48+(j:Int) % 10)] 5)):=by
 refine run_convert_bytes_back (P:=Tryz.prog) _ 110 9 5 ⟨w.heap.size,0,none⟩ 1 [(48+j % 10).toUInt8] Tryz.underlying110 Tryz.underlying5 Tryz.underlying9 (fun i hi=>?_)
 have e:i=0:=by simpa using hi
 subst e
 rw [WideShapes.add_plain,World.cell?_alloc_new]
 have h:((48+j % 10).toUInt8).toNat=48+j % 10:=by
  rw [UInt8.toNat_ofNat']
  omega
 simp only [List.getElem_cons_zero,h]
 simp
theorem markText_any (k:Nat) (w:World) (h0:1≤k) (h1:k≤10000000):Calls Tryz.prog 52 #[.int .i64 k] w fun e w'=>e=.returned (.string (mtI k))∧Below w.heap.size w w':=by
 have hk0:¬ (k:Int)≤0:=by omega
 go_enter Tryz.func52,Tryz.ntmps52
 go_wp2
 go_loopw [0,3] (fun a o w'=>∃ (j:Nat) (l:List UInt8),a=.int .i64 j∧o=.string ⟨l.toArray⟩∧mtF j j l=mtF k k []∧l.length+j≤10000000∧Below w.heap.size w w') (fun a _ _=>(intOf a).toNat)
 case atStart=>exact ⟨k,[],rfl,rfl,rfl,by simp;omega,Below.refl _ _⟩
 case round =>
  obtain ⟨j,l,rfl,rfl,hm,hl,hb⟩:=hrel
  have HM:=xaQ hm
  have HB:=xaQ hb
  clear hm hb
  by_cases hj:0<(j:Int)
  ·have HS:Hid (mtF (j / 10) (j / 10) ((48+j % 10).toUInt8 :: l)=mtF k k []):=by
     show _=_
     rw [← mtF_step j l (by omega)];exact HM.out
   have hcv:=conv_oneQ j wr
   obtain ⟨b,hbe⟩:∃ b,b=(48+j % 10).toUInt8:=⟨_,rfl⟩
   rw [← hbe] at hcv
   have HE:=xaQ hbe
   obtain ⟨lo,hlo⟩:∃ lo:ByteArray,lo=⟨l.toArray⟩:=⟨_,rfl⟩
   have hsz:lo.size=l.length:=by rw [hlo];simp [ByteArray.size]
   have hlz:(ByteArray.mk #[b]).size=1:=rfl
   rw [← hlo]
   have HL:=xaQ hlo
   clear hbe hlo HM
   go_wp2
   go_roundw
   case rel =>
    refine ⟨j / 10,b :: l,by go_num,?_,by rw [HE.out];exact HS.out,by simp only [List.length_cons];omega,HB.out.alloc HB.out.size _⟩
    rw [HL.out]
    exact congrArg Value.string (ByteArray.mk_append_mk [b] l)
   case measure=>simp [intOf];omega
  ·have HZ:Hid (mtI k=⟨#[109]⟩++⟨l.toArray⟩):=by
     show _=_
     have hz:j=0:=by omega
     have:=HM.out
     subst hz
     simp only [mtF] at this
     unfold mtI
     rw [← this]
     exact (ByteArray.mk_append_mk [109] l).symm
   obtain ⟨lo,hlo⟩:∃ lo:ByteArray,lo=⟨l.toArray⟩:=⟨_,rfl⟩
   have hsz:lo.size=l.length:=by rw [hlo];simp [ByteArray.size]
   have hlz:(ByteArray.mk #[109]).size=1:=rfl
   rw [← hlo]
   have HL:=xaQ hlo
   clear hlo HM
   go_wp2
   go_ret
   exact ⟨xRQ (by rw [HL.out];exact HZ.out.symm),HB.out⟩
mutual
def Mk (w:World) (lo hi:Nat):T→Nat→Nat→Prop
 | .node _ _ _ kk,b,off=>(∃ v,w.cell? ⟨b,off,none⟩=some v)∧(∃ v,w.cell? ⟨b,off+1,none⟩=some v)∧(∃ v,w.cell? ⟨b,off+2,none⟩=some v) ∧
   ∃ (a:Option Addr) (c:Nat),w.cell? ⟨b,off+3,none⟩=some (.slice a kk.length c) ∧
   (kk=[]∨∃ b',a=some ⟨b',0,none⟩∧lo≤b'∧b'<hi∧(∀ o,w.frozen? ⟨b',o,none⟩=false)∧MkL w lo hi kk b' 0)
def MkL (w:World) (lo hi:Nat):List T→Nat→Nat→Prop
 | [],_,_=>True
 | t :: r,b,off=>Mk w lo hi t b off∧MkL w lo hi r b (off+4)
end
def MkK (w:World) (lo hi:Nat) (a:Option Addr) (kk:List T):Prop:=kk=[]∨∃ b',a=some ⟨b',0,none⟩∧lo≤b'∧b'<hi∧(∀ o,w.frozen? ⟨b',o,none⟩=false)∧MkL w lo hi kk b' 0
structure WroteQ (L lo hi:Nat) (w w':World):Prop where
 os:w'.os=w.os
 tape:w'.tape=w.tape
 output:w'.output=w.output
 size:w.heap.size≤w'.heap.size
 block:∀ b,b<w.heap.size→¬ (lo≤b∧b<hi)→w'.heap[b]?=w.heap[b]?
 kept:∀ b o,L≤b→b<w.heap.size→o % 4=3→w'.cell? ⟨b,o,none⟩=w.cell? ⟨b,o,none⟩
 there:∀ b o,b<w.heap.size→(∃ v,w.cell? ⟨b,o,none⟩=some v)→∃ v,w'.cell? ⟨b,o,none⟩=some v
 frozen:∀ b o,b<w.heap.size→w'.frozen? ⟨b,o,none⟩=w.frozen? ⟨b,o,none⟩
theorem WroteQ.refl (L lo hi:Nat) (w:World):WroteQ L lo hi w w:=⟨rfl,rfl,rfl,Nat.le_refl _,fun _ _ _=>rfl,fun _ _ _ _ _=>rfl,fun _ _ _ h=>h,fun _ _ _=>rfl⟩
theorem WroteQ.trans {L lo hi:Nat} {a b c:World} (h:WroteQ L lo hi a b) (k:WroteQ L lo hi b c):WroteQ L lo hi a c :=
 ⟨k.os.trans h.os,k.tape.trans h.tape,k.output.trans h.output,Nat.le_trans h.size k.size,fun i hi hn=>(k.block i (Nat.lt_of_lt_of_le hi h.size) hn).trans (h.block i hi hn),
  fun i o hL hi ho=>(k.kept i o hL (Nat.lt_of_lt_of_le hi h.size) ho).trans (h.kept i o hL hi ho),fun i o hi hv=>k.there i o (Nat.lt_of_lt_of_le hi h.size) (h.there i o hi hv),fun i o hi=>(k.frozen i o (Nat.lt_of_lt_of_le hi h.size)).trans (h.frozen i o hi)⟩
theorem WroteQ.of_below {L lo hi:Nat} {a b:World} (h:Below a.heap.size a b):WroteQ L lo hi a b :=
 ⟨h.os,h.tape,h.output,h.size,fun i hi _=>h.block i hi,fun i o _ hi _=>h.cell (p:=⟨i,o,none⟩) hi,fun i o hi ⟨v,hv⟩=>⟨v,(h.cell (p:=⟨i,o,none⟩) hi).trans hv⟩,fun i o hi=>h.frozen (p:=⟨i,o,none⟩) hi⟩
theorem WroteQ.setCell {L lo hi:Nat} {a b:World} (h:WroteQ L lo hi a b) {g o:Nat} (h1:lo≤g) (h2:g<hi) (ho:g<L∨o % 4≠3) (u:Value):WroteQ L lo hi a (b.setCell ⟨g,o,none⟩ u) :=
 ⟨h.os,h.tape,h.output,by simp only [World.setCell,Array.size_modify];exact h.size,fun k hk hn=>by
     rw [Below.heap_setCell _ _ _ _ (fun e=>hn (by subst e;exact ⟨h1,h2⟩))]
     exact h.block k hk hn,
  fun i j hL hi hj=>by
   rw [World.cell?_setCell_other _ _ _ _ (fun e=>by injection e with e1 e2;omega)]
   exact h.kept i j hL hi hj,
  fun i j hi hv=>by
   obtain ⟨v,hv⟩:=h.there i j hi hv
   exact cell?_setCell_some hv,
  fun i j hi=>by
   have:(b.setCell ⟨g,o,none⟩ u).frozen? ⟨i,j,none⟩=b.frozen? ⟨i,j,none⟩:=by simp
   exact this.trans (h.frozen i j hi)⟩
mutual
theorem Mk.stay {w w':World} {L lo hi l' h':Nat} (h:WroteQ L l' h' w w') (hL:L≤lo):∀ (t:T) (b off:Nat),L≤b→off % 4=0→Mk w lo hi t b off→Mk w' lo hi t b off
 | .node k s m kk,b,off,hbL,ho,hl=>by
   unfold Mk at hl ⊢
   obtain ⟨h0,h1,h2,a,c,h3,hk⟩:=hl
   have hb:b<w.heap.size:=World.block_lt_of_cell? w _ h3
   refine ⟨h.there _ _ hb h0,h.there _ _ hb h1,h.there _ _ hb h2,a,c,(h.kept _ _ hbL hb (by omega)).trans h3,?_⟩
   rcases hk with hk | ⟨b',e,hlo,hhi,hf,hk⟩
   ·exact .inl hk
   ·cases hkk:kk with
    | nil=>exact .inl rfl
    | cons x r =>
      have hb':b'<w.heap.size:=by
       rw [hkk] at hk
       cases x
       unfold MkL Mk at hk
       obtain ⟨⟨⟨v,hv⟩,_⟩,_⟩:=hk
       exact World.block_lt_of_cell? w _ hv
      rw [← hkk]
      exact .inr ⟨b',e,hlo,hhi,fun o=>(h.frozen b' o hb').trans (hf o),MkL.stay h hL kk b' 0 (by omega) rfl hk⟩
theorem MkL.stay {w w':World} {L lo hi l' h':Nat} (h:WroteQ L l' h' w w') (hL:L≤lo):∀ (ks:List T) (b off:Nat),L≤b→off % 4=0→MkL w lo hi ks b off→MkL w' lo hi ks b off
 | [],_,_,_,_,_=>by unfold MkL;trivial
 | t :: r,b,off,hbL,ho,hl=>by
   unfold MkL at hl ⊢
   exact ⟨Mk.stay h hL t b off hbL ho hl.1,MkL.stay h hL r b (off+4) hbL (by omega) hl.2⟩
end
theorem MkL.get {w:World} {lo hi b:Nat}:∀ {ks:List T} {off i:Nat} {t:T},MkL w lo hi ks b off→ks[i]?=some t→Mk w lo hi t b (off+i * 4)
 | [],_,_,_,_,h=>by simp at h
 | x :: r,off,0,t,h,ht=>by
   simp at ht
   subst ht
   unfold MkL at h
   simpa using h.1
 | x :: r,off,i+1,t,h,ht=>by
   unfold MkL at h
   simp at ht
   have:=MkL.get h.2 ht
   rwa [show off+4+i * 4=off+(i+1) * 4 by omega] at this
theorem MkK.stay {w w':World} {L lo hi l' h':Nat} (h:WroteQ L l' h' w w') (hL:L≤lo) {a:Option Addr} {kk:List T} (hl:MkK w lo hi a kk):MkK w' lo hi a kk:=by
 rcases hl with hk | ⟨b',e,hlo,hhi,hf,hk⟩
 ·exact .inl hk
 ·cases hkk:kk with
  | nil=>exact .inl rfl
  | cons x r =>
    have hb':b'<w.heap.size:=by
     rw [hkk] at hk
     cases x
     unfold MkL Mk at hk
     obtain ⟨⟨⟨v,hv⟩,_⟩,_⟩:=hk
     exact World.block_lt_of_cell? w _ hv
    rw [← hkk]
    exact .inr ⟨b',e,hlo,hhi,fun o=>(h.frozen b' o hb').trans (hf o),MkL.stay h hL kk b' 0 (by omega) rfl hk⟩
mutual
theorem Lies0.mk {w:World} {lo:Nat}:∀ (t:T) (b off:Nat),Lies0 w lo t b off→Mk w lo w.heap.size t b off
 | .node k s m kk,b,off,hl=>by
   unfold Lies0 at hl
   unfold Mk
   obtain ⟨h0,h1,h2,hs,hn,a,c,h3,hc1,hc2,hk⟩:=hl
   refine ⟨⟨_,h0⟩,⟨_,h1⟩,⟨_,h2⟩,a,c,h3,?_⟩
   rcases hk with hk | ⟨b',e,hlo,hf,hk⟩
   ·exact .inl hk
   ·cases hkk:kk with
    | nil=>exact .inl rfl
    | cons x r =>
      have hb':b'<w.heap.size:=by
       rw [hkk] at hk
       unfold Lies0L at hk
       exact hk.1.lt
      rw [← hkk]
      exact .inr ⟨b',e,hlo,hb',hf,Lies0L.mk kk b' 0 hk⟩
theorem Lies0L.mk {w:World} {lo:Nat}:∀ (ks:List T) (b off:Nat),Lies0L w lo ks b off→MkL w lo w.heap.size ks b off
 | [],_,_,_=>by unfold MkL;trivial
 | t :: r,b,off,hl=>by
   unfold Lies0L at hl
   unfold MkL
   exact ⟨Lies0.mk t b off hl.1,Lies0L.mk r b (off+4) hl.2⟩
end
theorem Kids0.mk {w:World} {lo:Nat} {a:Option Addr} {kk:List T} (hk:Kids0 w lo a kk):MkK w lo w.heap.size a kk:=by
 rcases hk with hk | ⟨b',e,hlo,hf,hk⟩
 ·exact .inl hk
 ·cases hkk:kk with
  | nil=>exact .inl rfl
  | cons x r =>
    have hb':b'<w.heap.size:=by
     rw [hkk] at hk
     unfold Lies0L at hk
     exact hk.1.lt
    rw [← hkk]
    exact .inr ⟨b',e,hlo,hb',hf,Lies0L.mk kk b' 0 hk⟩
theorem markText_int (x:Int) (k:Nat) (hx:x=k) (w:World) (h0:1≤k) (h1:k≤10000000):Calls Tryz.prog 52 #[.int .i64 x] w fun e w'=>e=.returned (.string (mtI k))∧Below w.heap.size w w':=by
 subst hx;exact markText_any k w h0 h1
def MarkOk (t:T):Prop:=match t with
 | .node _ _ _ kk=>∀ (lo hi:Nat) (a:Option Addr) (c:Nat) (k:Int) (w:World),MkK w lo hi a kk→1≤k→k+3 * cnts kk≤9000000 →
   Calls Tryz.prog 48 #[.slice a kk.length c,.int .i64 k] w fun e w'=>e=.returned (.int .i64 (k+3 * cnts kk))∧WroteQ 0 lo hi w w'
theorem markNodeS_of (kk:List T) (IH:∀ t∈kk,MarkOk t) (lo hi b c:Nat) (k0:Int) (w:World) (hlo:lo≤b) (hhi:b<hi) (hf:∀ o,w.frozen? ⟨b,o,none⟩=false) (hl:MkL w lo hi kk b 0) (h1:1≤k0) (h2:k0+3 * cnts kk≤9000000) :
    Calls Tryz.prog 48 #[.slice (some ⟨b,0,none⟩) kk.length c,.int .i64 k0] w fun e w'=>e=.returned (.int .i64 (k0+3 * cnts kk))∧WroteQ 0 lo hi w w':=by
 have HL:=xaQ hl
 have HF:=xaQ hf
 have HI:=xaQ IH
 have H2:=xaQ h2
 have hlen:kk.length≤9000000:=by
  have:∀ l:List T,l.length≤cnts l:=by
   intro l
   induction l with
   | nil=>simp [cnts]
   | cons x r ih=>cases x;simp only [cnts,cnt,List.length_cons];omega
  have:=this kk
  omega
 clear hl hf IH h2
 go_enter Tryz.func48,Tryz.ntmps48
 go_wp2
 go_loopw [1,5] (fun kv i w'=>∃ (j:Nat) (x:Int),j≤kk.length∧i=.int .i64 j∧kv=.int .i64 x∧x=k0+3 * cnts (kk.take j)∧WroteQ 0 lo hi w w') (fun _ i _=>kk.length - (intOf i).toNat)
 case atStart=>exact ⟨0,_,Nat.zero_le _,rfl,rfl,by simp [cnts],WroteQ.refl _ _ _ _⟩
 case round =>
  obtain ⟨j,x,hj,rfl,rfl,hx,hw⟩:=hrel
  have HW:=xaQ hw
  have HX:=xaQ hx
  clear hw hx
  by_cases hlt:j<kk.length
  ·obtain ⟨t,ht⟩:∃ t,kk[j]?=some t:=⟨_,List.getElem?_eq_getElem hlt⟩
   obtain ⟨tk,ts,tm,tkk⟩:=t
   have HT:=xaQ ht
   have ml:=(MkL.stay HW.out (Nat.zero_le _) kk b 0 (Nat.zero_le _) rfl HL.out).get ht
   rw [Nat.zero_add] at ml
   unfold Mk at ml
   obtain ⟨⟨v0,c0⟩,hv1,hv2,ta,tc,c3,hk3⟩:=ml
   have HV:=xaQ (And.intro hv1 (And.intro hv2 (And.intro c3 (show MkK wr lo hi ta tkk from hk3))))
   have hb:b<wr.heap.size:=World.block_lt_of_cell? wr _ c0
   have hbw:b<w.heap.size:=by
    have h:=HL.out.get ht
    unfold Mk at h
    obtain ⟨⟨v,hv⟩,_⟩:=h
    exact World.block_lt_of_cell? w _ hv
   have FR:=xaQ fun o=>(HW.out.frozen b o hbw).trans (HF.out o)
   have f0:=FR.out (j * 4)
   have hcn:=cnts_take ht
   simp only [cnt] at hcn
   have hle:cnts (kk.take (j+1))≤cnts kk:=by
    have:∀ (l:List T) (n:Nat),cnts (l.take n)≤cnts l:=by
     intro l
     induction l with
     | nil=>intro n;simp [cnts]
     | cons x r ih=>intro n;cases n with
       | zero=>simp [cnts]
       | succ n=>simp only [List.take_succ_cons,cnts];have:=ih n;omega
    exact this _ _
   have hx9:1≤x∧x+3+3 * cnts tkk≤9000000:=by have:=HX.out;have:=H2.out;omega
   obtain ⟨hx1,hx2⟩:=hx9
   have HCN:=xaQ hcn
   clear ht hv1 hv2 c3 hk3 hcn hle hbw
   go_wp2_with fail
   refine (markText_int _ (x+1).toNat (by omega) _ (by omega) (by omega)).mono ?_
   rintro e w1 ⟨rfl,hb1⟩
   obtain ⟨u,hu⟩:∃ u,u=mtI (x+1).toNat:=⟨_,rfl⟩
   rw [← hu]
   clear hu
   have W1:=xaQ ((((WroteQ.refl 0 lo hi wr).setCell (g:=b) (o:=j * 4) hlo hhi (.inr (by omega)) (.int .i64 x))).trans (WroteQ.of_below hb1))
   obtain ⟨v1,c1⟩:=W1.out.there _ _ hb HV.out.1
   obtain ⟨v2,c2⟩:=W1.out.there _ _ hb HV.out.2.1
   have c3:=(W1.out.kept _ _ (Nat.zero_le _) hb (show (j * 4+3) % 4=3 by omega)).trans HV.out.2.2.1
   have f1:=(W1.out.frozen b (j * 4+1) hb).trans (FR.out _)
   have f2:=(W1.out.frozen b (j * 4+2) hb).trans (FR.out _)
   have W3:=xaQ ((W1.out.setCell (g:=b) (o:=j * 4+1) hlo hhi (.inr (by omega)) (.string u)).setCell (g:=b) (o:=j * 4+2) hlo hhi (.inr (by omega)) (.int .i64 (x+1+1)))
   have HC:=xaQ (HI.out _ (List.mem_of_getElem? HT.out) lo hi ta tc (x+1+1+1) _ (HV.out.2.2.2.stay W3.out (Nat.zero_le _)) (by omega) (by omega))
   clear hb1 c0 f0
   go_wp2_with fail
   refine HC.out.mono ?_
   rintro e w4 ⟨rfl,hw4⟩
   have W4:=xaQ ((HW.out.trans W3.out).trans hw4)
   obtain ⟨x',hx'⟩:∃ x',x'=x+1+1+1+3 * (cnts tkk:Int):=⟨_,rfl⟩
   rw [← hx']
   have HX':=xaQ hx'
   clear hw4 hx' c1 c2 c3 f1 f2
   go_wp2
   go_roundw
   case rel=>exact ⟨j+1,x',by omega,by go_num,rfl,by have:=HX'.out;have:=HX.out;have:=HCN.out;omega,W4.out⟩
   case measure=>simp [intOf];omega
  ·go_wp2
   go_ret
   have h3:=HX.out
   rw [List.take_of_length_le (by omega)] at h3
   exact ⟨xVQ h3,HW.out⟩
theorem markNodeS_nil (a:Option Addr) (c:Nat) (k0:Int) (w:World) :
    Calls Tryz.prog 48 #[.slice a 0 c,.int .i64 k0] w fun e w'=>e=.returned (.int .i64 k0)∧w'=w:=by
 go_enter Tryz.func48,Tryz.ntmps48
 go_wp2
 go_loopw [1,5] (fun kv i w'=>i=.int .i64 0∧kv=.int .i64 k0∧w'=w) (fun _ i _=>0)
 case atStart=>exact ⟨rfl,rfl,rfl⟩
 case round =>
  obtain ⟨rfl,rfl,rfl⟩:=hrel
  go_wp2
  go_ret
  exact ⟨rfl,rfl⟩
theorem markNodeS_ok (t:T):MarkOk t:=by
 refine T.induct ?_ t
 intro k s m kk IH lo hi a c k0 w hl h1 h2
 rcases hl with rfl | ⟨b,rfl,hlo,hhi,hf,hl⟩
 ·refine (markNodeS_nil a c k0 w).mono ?_
  rintro e w' ⟨rfl,rfl⟩
  exact ⟨xVQ (by simp [cnts]),WroteQ.refl _ _ _ _⟩
 ·exact markNodeS_of kk IH lo hi b c k0 w hlo hhi hf hl h1 h2
end Go.Proofs.YtocbgbkdlfkjjaaGreatDoor
