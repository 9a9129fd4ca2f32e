/-
  PURE: a program without for loops; names and what is wrong with them.
-/
import Derived.Test.YtocbgbkdlfkjjaaGreatDoorKHh
namespace Go.Proofs.YtocbgbkdlfkjjaaGreatDoor
open Go.RowKit
open Pl
/-- The two statements that stand for a for. -/
def varT (s:ByteArray):T:=.node 2 s 0 []
def setT (s:ByteArray) (e:T):T:=.node 21 s 0 [e]
def nextT (s:ByteArray):T:=setT s (.node 6 ⟨#[]⟩ 0 [varT s,.node 1 ⟨#[]⟩ 1 []])
def addK (t x:T):T:=match t with | .node k s m kk=>.node k s m (kk++[x])
def loopT (s:ByteArray) (b c:T):T:=.node 25 ⟨#[]⟩ 0 [.node 11 ⟨#[]⟩ 0 [varT s,b],addK c (nextT s)]
def forT (s:ByteArray) (l:List T):List T:=match l with | [a,b,c]=>[setT s a,loopT s b c] | _=>[]
mutual
/-- A tree without for loops below it. -/
def plnT:T→T
  | .node k s m kk=>.node k s m (plnL kk)
def plnK:T→List T
  | .node k s m kk=>if k=26 then forT s (plnE kk) else [.node k s m (plnL kk)]
def plnL:List T→List T
  | []=>[]
  | t :: r=>plnK t++plnL r
def plnE:List T→List T
  | []=>[]
  | t :: r=>plnT t :: plnE r
end
theorem yAQ {t:T} (h:xdQ t≠26):plnK t=[plnT t]:=by
  obtain ⟨k,s,m,kk⟩:=t
  simp only [plnK,plnT]
  exact if_neg h
theorem plnK_for {s:ByteArray} {m:Int} {a b c:T}:plnK (.node 26 s m [a,b,c])=[setT s (plnT a),loopT s (plnT b) (plnT c)]:=by simp [plnK,plnE,forT]
theorem plnL_append (p q:List T):plnL (p++q)=plnL p++plnL q:=by
  induction p with
  | nil=>rfl
  | cons x r ih=>simp only [List.cons_append,plnL,ih,List.append_assoc]
theorem good_pln (t:T):Good t→plnT t=t:=by
  refine T.induct (P:=fun t=>Good t→plnT t=t) ?_ t
  intro k s m kk ih h
  have one:∀ x∈kk,Good1 x→plnK x=[x]:=fun x hx hg=>by rw [yAQ (by have:=hg.2;omega),ih x hx hg.good]
  obtain ⟨_,hs⟩:=xOQ h
  simp only [plnT]
  congr 1
  rcases hs with ⟨_,e,_,_⟩ | ⟨_,e⟩ | ⟨_,e⟩ | ⟨_,x,e,g⟩ | ⟨_,x,e,g⟩ | ⟨_,x,y,e,g,g'⟩ | ⟨_,x,y,e,g,g'⟩ <;> subst e <;> simp only [plnL]
  · rw [one x (by simp) g];rfl
  · rw [one x (by simp) g];rfl
  · rw [one x (by simp) g,one y (by simp) g'];rfl
  · rw [one x (by simp) g,one y (by simp) g'];rfl
theorem cnts_append (p q:List T):cnts (p++q)=cnts p+cnts q:=by
  induction p with
  | nil=>simp [cnts]
  | cons x r ih=>simp only [List.cons_append,cnts,ih];omega
theorem cnt_one (t:T):1≤cnt t:=by cases t;simp only [cnt];omega
theorem yIQ (kk:List T):kk.length≤cnts kk:=by
  induction kk with
  | nil=>simp [cnts]
  | cons x r ih=>have:=cnt_one x;simp only [cnts,List.length_cons];omega
theorem forT_cnt (s:ByteArray) (l:List T):cnts (forT s l)≤8+cnts l:=by
  unfold forT
  split
  · rename_i a b c
    obtain ⟨k,s',m,kk⟩:=c
    simp only [cnts,cnt,setT,loopT,addK,nextT,varT,cnts_append]
    omega
  · simp [cnts]
theorem plnL_cnt {kk:List T} (ih:∀ t∈kk,cnts (plnK t)≤8 * cnt t):cnts (plnL kk)≤8 * cnts kk:=by
  induction kk with
  | nil=>simp [plnL,cnts]
  | cons x r ih2 =>
    have:=ih x (by simp)
    have:=ih2 (fun t ht=>ih t (by simp [ht]))
    simp only [plnL,cnts,cnts_append];omega
theorem plnE_cnt {kk:List T} (ih:∀ t∈kk,cnt (plnT t)≤8 * cnt t):cnts (plnE kk)≤8 * cnts kk:=by
  induction kk with
  | nil=>simp [plnE,cnts]
  | cons x r ih2 =>
    have:=ih x (by simp)
    have:=ih2 (fun t ht=>ih t (by simp [ht]))
    simp only [plnE,cnts];omega
theorem pln_cnt (t:T):cnt (plnT t)≤8 * cnt t∧cnts (plnK t)≤8 * cnt t:=by
  refine T.induct (P:=fun t=>cnt (plnT t)≤8 * cnt t∧cnts (plnK t)≤8 * cnt t) ?_ t
  intro k s m kk ih
  have h1:=plnL_cnt fun t ht=>(ih t ht).2
  have h2:=plnE_cnt fun t ht=>(ih t ht).1
  refine ⟨by simp only [plnT,cnt];omega,?_⟩
  simp only [plnK]
  split
  · have:=forT_cnt s (plnE kk);simp only [cnt];omega
  · simp only [cnts,cnt];omega
theorem formed_for {s:ByteArray} {m:Int} {kk:List T} (h:xeQ (.node 26 s m kk)=true):∃ a b c,kk=[a,b,c]∧Good1 a∧Good1 b∧xdQ c=30∧xeQ c=true:=by
  obtain ⟨hh,_,hk⟩:=xpQ h
  have hl:kk.length=3:=by
    unfold xfQ at hh
    rw [show xuQ 26=(3,true,true) from rfl] at hh
    simp at hh
    omega
  match kk,hl with
  | [a,b,c],_ =>
    have h0:=hk 0 a rfl
    have h1:=hk 1 b rfl
    have h2:=hk 2 c rfl
    simp [kidI] at h0 h1 h2
    exact ⟨a,b,c,rfl,⟨h0.2,x5Q h0.1⟩,⟨h1.2,x5Q h1.1⟩,h2.1,h2.2⟩
theorem formed_kid {k m:Int} {s:ByteArray} {kk:List T} (h:xeQ (.node k s m kk)=true) {t:T} (ht:t∈kk):xeQ t=true:=by
  obtain ⟨j,hj⟩:=List.getElem?_of_mem ht
  have:=(xpQ h).2.2 j t hj
  simp only [Bool.and_eq_true] at this
  exact this.2
/-! names -/
def nameT:T→ByteArray | .node _ s _ _=>s
def numT:T→Int | .node _ _ m _=>m
def declK (k:Int):Int:=if k=2∨k=21∨k=23∨k=26 then 31 else if k=3∨k=4∨k=22 then 32 else 0
/-- What is declared under a name. -/
def x9Q:List T→ByteArray→Int
  | [],_=>0
  | t :: r,s=>if nameT t=s then xdQ t else x9Q r s
def trbl (f:ByteArray→Int) (k:Int) (s:ByteArray):Int:=if declK k=f s∨declK k=0 then 0 else if f s=0 then 7 else 8
mutual
/-- The first node of which something is so. -/
def wrg (p:Int→ByteArray→Bool):T→Option ByteArray
  | .node k s _ kk=>if p k s=true then some s else wrgL p kk
def wrgL (p:Int→ByteArray→Bool):List T→Option ByteArray
  | []=>none
  | t :: r=>(wrg p t).or (wrgL p r)
end
theorem wrg_congr {q p p':Int→ByteArray→Bool} (h:∀ k s,q k s=false→p k s=p' k s) (t:T):wrg q t=none→wrg p t=wrg p' t:=by
  refine T.induct (P:=fun t=>wrg q t=none→wrg p t=wrg p' t) ?_ t
  intro k s m kk ih hq
  simp only [wrg] at hq ⊢
  split at hq
  · cases hq
  · rename_i hn
    rw [h k s (by simpa using hn)]
    split
    · rfl
    · clear hn
      induction kk with
      | nil=>rfl
      | cons x r ih2 =>
        simp only [wrgL,Option.or_eq_none_iff] at hq ⊢
        rw [ih x (by simp) hq.1,ih2 (fun t ht=>ih t (by simp [ht])) hq.2]
theorem wrg_same {p p':Int→ByteArray→Bool} (h:∀ k s,p k s=p' k s) (t:T):wrg p t=wrg p' t:=by
  have:p=p':=funext fun k=>funext fun s=>h k s
  rw [this]
def Dk (D:List T):Prop:=∀ t∈D,xdQ t=31∨xdQ t=32
theorem look_zero {D:List T} (h:Dk D) (s:ByteArray):x9Q D s=0 ↔ ∀ t∈D,nameT t≠s:=by
  induction D with
  | nil=>simp [x9Q]
  | cons x r ih =>
    have hx:=h x (by simp)
    have ih:=ih (fun t ht=>h t (by simp [ht]))
    simp only [x9Q,List.mem_cons,forall_eq_or_imp]
    split
    · rename_i e;simp [e];omega
    · rename_i e;simp [e,ih]
theorem look_snoc {D:List T} (h:Dk D) (t:T) (hz:x9Q D (nameT t)=0) (s:ByteArray):x9Q (D++[t]) s=if nameT t=s then xdQ t else x9Q D s:=by
  induction D with
  | nil=>simp [x9Q]
  | cons x r ih =>
    have hx:=h x (by simp)
    simp only [x9Q] at hz
    split at hz
    · omega
    · rename_i e
      have ih:=ih (fun t ht=>h t (by simp [ht])) hz
      simp only [List.cons_append,x9Q,ih]
      by_cases e1:nameT x=s
      · have:¬ nameT t=s:=fun e2=>e (e1.trans e2.symm)
        simp [e1,this]
      · simp [e1]
/-- The first name that is declared twice. -/
def twiceD:List T→List T→Option ByteArray
  | _,[]=>none
  | D,t :: r=>if x9Q D (nameT t)=0 then twiceD (D++[t]) r else some (nameT t)
def ydQ (D:List T) (k:Int):List ByteArray:=(D.filter fun t=>decide (xdQ t=k)).map nameT
theorem mem_names {D:List T} {k:Int} {s:ByteArray}:s∈ydQ D k ↔ ∃ t∈D,xdQ t=k∧nameT t=s:=by
  simp only [ydQ,List.mem_map,List.mem_filter,decide_eq_true_eq]
  exact ⟨fun ⟨t,⟨h1,h2⟩,h3⟩=>⟨t,h1,h2,h3⟩,fun ⟨t,h1,h2,h3⟩=>⟨t,⟨h1,h2⟩,h3⟩⟩
def ApartN:List T→Prop
  | []=>True
  | t :: r=>(∀ x∈r,nameT x≠nameT t)∧ApartN r
theorem apart_snoc {D:List T} {t:T} (h:ApartN D) (hn:∀ x∈D,nameT x≠nameT t):ApartN (D++[t]):=by
  induction D with
  | nil=>simp [ApartN]
  | cons x r ih =>
    simp only [List.cons_append,ApartN] at h ⊢
    refine ⟨fun y hy=>?_,ih h.2 (fun y hy=>hn y (by simp [hy]))⟩
    rcases List.mem_append.1 hy with hy | hy
    · exact h.1 y hy
    · rw [List.mem_singleton.1 hy];exact fun e=>hn x (by simp) e.symm
theorem twice_apart {r D:List T} (hk:Dk (D++r)) (h:ApartN D):twiceD D r=none→ApartN (D++r):=by
  induction r generalizing D with
  | nil=>intro _;simpa using h
  | cons t r ih =>
    intro hz
    simp only [twiceD] at hz
    split at hz
    · rename_i e
      have:=ih (D:=D++[t]) (by simpa using hk) (apart_snoc h ((look_zero (fun x hx=>hk x (by simp [hx])) _).1 e)) hz
      simpa using this
    · cases hz
theorem look_apart {D:List T} (hk:Dk D) (h:ApartN D) (s:ByteArray) {k:Int} (h0:k≠0):x9Q D s=k ↔ s∈ydQ D k:=by
  rw [mem_names]
  induction D with
  | nil=>simp [x9Q];omega
  | cons x r ih =>
    have ih:=ih (fun t ht=>hk t (by simp [ht])) h.2
    simp only [x9Q]
    split
    · rename_i e
      constructor
      · intro e2;exact ⟨x,by simp,e2,e⟩
      · rintro ⟨t,ht,h1,h2⟩
        rcases List.mem_cons.1 ht with rfl | ht
        · exact h1
        · exact absurd (h2.trans e.symm) (h.1 t ht)
    · rename_i e
      rw [ih]
      constructor
      · rintro ⟨t,ht,h1⟩;exact ⟨t,by simp [ht],h1⟩
      · rintro ⟨t,ht,h1,h2⟩
        rcases List.mem_cons.1 ht with rfl | ht
        · exact absurd h2 e
        · exact ⟨t,ht,h1,h2⟩
theorem look_kinds {D:List T} (hk:Dk D) (s:ByteArray):x9Q D s=0∨x9Q D s=31∨x9Q D s=32:=by
  induction D with
  | nil=>simp [x9Q]
  | cons x r ih =>
    have:=hk x (by simp)
    have:=ih (fun t ht=>hk t (by simp [ht]))
    simp only [x9Q]
    split <;> omega
/-! what the two sides look for -/
def wantS (k:Int):Int:=if k=2∨k=21∨k=23∨k=26 then 1 else if k=3∨k=4∨k=22 then 2 else 0
def inN (V:List ByteArray) (s:ByteArray):Bool:=V.any fun x=>decide (x=s)
theorem inN_iff {V:List ByteArray} {s:ByteArray}:inN V s=true ↔ s∈V:=by
  simp only [inN,List.any_eq_true,decide_eq_true_eq]
  exact ⟨fun ⟨x,h,e⟩=>e ▸ h,fun h=>⟨s,h,rfl⟩⟩
def badS (V R:List ByteArray) (c:Int) (k:Int) (s:ByteArray):Bool :=
  decide (0<wantS k) && ((decide (c=7) && !inN V s && !inN R s) || (decide (c=8) && ((decide (wantS k=1) && !inN V s) || (decide (wantS k=2) && !inN R s))))
def badP (f:ByteArray→Int) (c:Int) (k:Int) (s:ByteArray):Bool:=decide (trbl f k s=c)
theorem bad_same {D:List T} (hk:Dk D) (h:ApartN D) (k:Int) (s:ByteArray) :
    badP (x9Q D) 7 k s=badS (ydQ D 31) (ydQ D 32) 7 k s∧(badP (x9Q D) 7 k s=false→badP (x9Q D) 8 k s=badS (ydQ D 31) (ydQ D 32) 8 k s):=by
  have hV:=look_apart hk h s (k:=31) (by decide)
  have hR:=look_apart hk h s (k:=32) (by decide)
  have h3:=look_kinds hk s
  unfold badP badS trbl
  have e:declK k=if wantS k=1 then 31 else if wantS k=2 then 32 else 0:=by
    unfold declK wantS
    split
    · simp
    · split <;> simp
  rw [e]
  have hw:wantS k=0∨wantS k=1∨wantS k=2:=by unfold wantS;split <;> (try split) <;> simp
  generalize x9Q D s=x at *
  have eV:inN (ydQ D 31) s=decide (x=31):=by rw [Bool.eq_iff_iff,inN_iff,← hV];simp
  have eR:inN (ydQ D 32) s=decide (x=32):=by rw [Bool.eq_iff_iff,inN_iff,← hR];simp
  rw [eV,eR]
  clear hV hR e hk h eV eR
  rcases hw with hw | hw | hw <;> rcases h3 with rfl | rfl | rfl <;> simp [hw]
def cntK (D:List T) (k:Int):Nat:=(ydQ D k).length
def manyD (D:List T):Bool:=decide (8<cntK D 31) || decide (4<cntK D 32) || D.any fun t=>decide (60<numT t)
theorem prog_parts {s:ByteArray} {m:Int} {kk:List T} (h:xeQ (.node 40 s m kk)=true):s=⟨#[]⟩∧m=0∧∃ (D:List T) (B:T),kk=D++[B]∧Dk D∧xdQ B=30∧xeQ B=true∧(∀ t∈D,xeQ t=true):=by
  obtain ⟨hh,hn,hk⟩:=xpQ h
  unfold xfQ at hh
  rw [show xuQ 40=(-1,false,true) from rfl] at hh
  simp at hh
  have hs:s=⟨#[]⟩:=hh.1
  have hne:kk≠[]:=hh.2
  refine ⟨hs,by simpa [xVQ] using hn,kk.dropLast,kk.getLast hne,(List.dropLast_concat_getLast hne).symm,?_,?_,?_,?_⟩
  · intro t ht
    obtain ⟨j,hj⟩:=List.getElem?_of_mem ht
    have hl:j<kk.dropLast.length:=(List.getElem?_eq_some_iff.1 hj).1
    rw [List.length_dropLast] at hl
    have hj2:kk[j]?=some t:=by rw [List.getElem?_dropLast,if_pos (by omega)] at hj;exact hj
    have:=hk j t hj2
    simp only [Bool.and_eq_true] at this
    have h1:=this.1
    unfold kidI at h1
    simp at h1
    rw [if_neg (by omega)] at h1
    simpa using h1
  · have:=hk (kk.length - 1) (kk.getLast hne) (by rw [List.getLast_eq_getElem];exact List.getElem?_eq_getElem _)
    simp only [Bool.and_eq_true] at this
    have h1:=this.1
    have:0<kk.length:=List.length_pos_iff.2 hne
    unfold kidI at h1
    simp at h1
    rw [if_pos (by omega)] at h1
    simpa using h1
  · exact formed_kid h (List.getLast_mem hne)
  · exact fun t ht=>formed_kid h ((List.dropLast_sublist kk).mem ht)
theorem ymQ {α:Type} {l:List α} {i:Nat} {t:α} (h:l[i]?=some t):l.take (i+1)=l.take i++[t]:=by
  rw [List.take_add_one,h];rfl
theorem drop_cons {α:Type} {l:List α} {i:Nat} {t:α} (h:l[i]?=some t):l.drop i=t :: l.drop (i+1):=by
  obtain ⟨hi,e⟩:=List.getElem?_eq_some_iff.1 h
  rw [List.drop_eq_getElem_cons hi,e]
theorem twice_go {D:List T} {i:Nat} {t:T} (h:D[i]?=some t) (hz:x9Q (D.take i) (nameT t)=0):twiceD (D.take i) (D.drop i)=twiceD (D.take (i+1)) (D.drop (i+1)):=by
  rw [drop_cons h,ymQ h];simp only [twiceD];rw [if_pos hz]
theorem twice_hit {D:List T} {i:Nat} {t:T} (h:D[i]?=some t) (hz:x9Q (D.take i) (nameT t)≠0):twiceD (D.take i) (D.drop i)=some (nameT t):=by
  rw [drop_cons h];simp only [twiceD];rw [if_neg hz]
theorem twice_end (D:List T):twiceD (D.take D.length) (D.drop D.length)=none:=by rw [List.drop_length];rfl
theorem dk_take {D:List T} (h:Dk D) (i:Nat):Dk (D.take i):=fun t ht=>h t (List.mem_of_mem_take ht)
theorem namesD_snoc (D:List T) (t:T) (k:Int):ydQ (D++[t]) k=ydQ D k++(if xdQ t=k then [nameT t] else []):=by
  unfold ydQ
  rw [List.filter_append,List.map_append]
  by_cases h:xdQ t=k <;> simp [h]
theorem cntK_snoc (D:List T) (t:T) (k:Int):cntK (D++[t]) k=cntK D k+(if xdQ t=k then 1 else 0):=by
  unfold cntK;rw [namesD_snoc,List.length_append];split <;> simp
theorem cntK_le (D:List T) (k:Int):cntK D k≤D.length:=by
  unfold cntK ydQ;rw [List.length_map];exact List.length_filter_le _ _
/-- The greatest size. -/
def mxS (z:Int) (t:T):Int:=if xdQ t=32 then max z (numT t) else z
def mxD (D:List T):Int:=D.foldl mxS 0
theorem mxD_snoc (D:List T) (t:T):mxD (D++[t])=if xdQ t=32 then max (mxD D) (numT t) else mxD D:=by unfold mxD;rw [List.foldl_append];rfl
theorem mono_mx (r:List T) (z:Int):z≤r.foldl mxS z:=by
  induction r generalizing z with
  | nil=>exact Int.le_refl _
  | cons y q ih=>simp only [List.foldl_cons];refine Int.le_trans ?_ (ih _);unfold mxS;split <;> omega
theorem foldl_mx {D:List T} (z:Int) (hz:z≤60) (h:∀ t∈D,xdQ t=31→numT t=0) (hk:Dk D):60<D.foldl mxS z ↔ ∃ t∈D,60<numT t:=by
  induction D generalizing z with
  | nil=>simp only [List.foldl_nil,List.not_mem_nil,false_and,exists_false,iff_false];omega
  | cons x r ih =>
    have hx:=hk x (by simp)
    have h0:=h x (by simp)
    simp only [List.foldl_cons,List.mem_cons,exists_eq_or_imp]
    by_cases h6:60<numT x
    · have e:xdQ x=32:=by omega
      have:=mono_mx r (mxS z x)
      have:mxS z x=max z (numT x):=by unfold mxS;rw [if_pos e]
      exact ⟨fun _=>.inl h6,fun _=>by omega⟩
    · rw [ih (mxS z x) (by unfold mxS;split <;> omega) (fun t ht=>h t (by simp [ht])) (fun t ht=>hk t (by simp [ht]))]
      exact ⟨.inr,fun h=>h.resolve_left h6⟩
theorem mx_any {D:List T} (h:∀ t∈D,xdQ t=31→numT t=0) (hk:Dk D):decide (60<mxD D)=D.any fun t=>decide (60<numT t):=by
  rw [Bool.eq_iff_iff,List.any_eq_true,decide_eq_true_iff]
  simp only [decide_eq_true_iff]
  exact foldl_mx 0 (by decide) h hk
theorem decl_num {t:T} (h:xeQ t=true) (hk:xdQ t=31):numT t=0:=by
  obtain ⟨k,s,m,kk⟩:=t
  have:=(xpQ h).2.1
  have e:k=31:=hk
  subst e
  show m=0
  simpa [xVQ] using this
end Go.Proofs.YtocbgbkdlfkjjaaGreatDoor
