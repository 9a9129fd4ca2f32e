/- PLAIN FACTS: the words of statements, blocks, declarations and programs are read as them. -/
import Derived.Test.YtocbgbkdlfkjjaaGreatDoorMHp
import Derived.Test.YtocbgbkdlfkjjaaGreatDoorMHz
import Derived.Test.YtocbgbkdlfkjjaaGreatDoorMHy
import Derived.Test.YtocbgbkdlfkjjaaGreatDoorMHc
import Derived.Test.YtocbgbkdlfkjjaaGreatDoorMHx
import Derived.Deep.RegionLaw
import Derived.Deep.AppendLies
import Derived.Deep.QuietTactic
import Derived.BigQuiet
import Derived.Defers
import Derived.Recover
import Derived.Test.YtocbgbkdlfkjjaaGreatDoorMHb
namespace Go.Proofs.YtocbgbkdlfkjjaaGreatDoor
open Go.RowKit
open Pl
def ELSE:ByteArray:=(⟨#[101,108,115,101]⟩:ByteArray)
def Odd (t:ByteArray):Prop:=t=ELSE∨t=(⟨#[125]⟩:ByteArray)∨t=(⟨#[118,97,114]⟩:ByteArray)∨t=(⟨#[97,114,114,97,121]⟩:ByteArray)
theorem odd_name {t:ByteArray} (h:Odd t):xAQ t≠1:=by
 rcases h with rfl | rfl | rfl | rfl
 ·rw [yKQ (ky rfl)];decide
 ·exact not_name (by decide)
 ·rw [yKQ (ky rfl)];decide
 ·rw [yKQ (ky rfl)];decide
theorem name_odd {s t:ByteArray} (hn:xBQ s=true) (h:Odd t):s≠t:=fun e=>by
 subst e
 exact odd_name h (yAQ hn)
theorem stmt_head (t:T) (h:GoodS t):∃ s r,tL t=s :: r∧∀ o,Odd o→s≠o:=by
 obtain ⟨k,s,m,kk⟩:=t
 have odd:∀ (w:ByteArray),w≠ELSE→w≠(⟨#[125]⟩:ByteArray)→w≠(⟨#[118,97,114]⟩:ByteArray)→w≠(⟨#[97,114,114,97,121]⟩:ByteArray)→∀ o,Odd o→w≠o:=fun w a b c d o ho e=>by
  rcases ho with q | q | q | q <;> rw [q] at e
  ·exact a e
  ·exact b e
  ·exact c e
  ·exact d e
 rw [tL_eq]
 cases zBQ h with
 | set h x hk hx hn hm=>subst h hk hm;exact ⟨s,_,rfl,fun o ho=>name_odd hn ho⟩
 | put h x y hk hx hy hn hm=>subst h hk hm;exact ⟨s,_,rfl,fun o ho=>name_odd hn ho⟩
 | read h hk hn hm=>subst h hk hm;exact ⟨_,_,rfl,odd _ (by decide) (by decide) (by decide) (by decide)⟩
 | ifs h c b d hk hc hb hd hs hm =>
  subst h hk hs hm
  rw [show ((([c,b,d]:List T)[2]?).map xtQ).getD true=xtQ d from rfl]
  cases xtQ d with
  | true=>exact ⟨_,_,rfl,odd _ (by decide) (by decide) (by decide) (by decide)⟩
  | false=>exact ⟨_,_,rfl,odd _ (by decide) (by decide) (by decide) (by decide)⟩
 | whil h c b hk hc hb hs hm=>subst h hk hs hm;exact ⟨_,_,rfl,odd _ (by decide) (by decide) (by decide) (by decide)⟩
 | fors h x y b hk hx hy hb hn hm=>subst h hk hm;exact ⟨_,_,rfl,odd _ (by decide) (by decide) (by decide) (by decide)⟩
 | chec h c hk hc hs hm=>subst h hk hs hm;exact ⟨_,_,rfl,odd _ (by decide) (by decide) (by decide) (by decide)⟩
 | skip h hk hs hm=>subst h hk hs hm;exact ⟨_,_,rfl,odd _ (by decide) (by decide) (by decide) (by decide)⟩
 | stop h hk hs hm=>subst h hk hs hm;exact ⟨_,_,rfl,odd _ (by decide) (by decide) (by decide) (by decide)⟩
theorem name_stmt {ws:List W3} (hw:WsOk ws) {i:Nat} {s:ByteArray} {r:List ByteArray} (h:X ws i=s :: r) (hn:xBQ s=true) :
    isW ws i (⟨#[105,102]⟩:ByteArray)=false∧isW ws i (⟨#[119,104,105,108,101]⟩:ByteArray)=false∧isW ws i (⟨#[102,111,114]⟩:ByteArray)=false∧isW ws i (⟨#[114,101,97,100]⟩:ByteArray)=false∧isW ws i (⟨#[99,104,101,99,107]⟩:ByteArray)=false∧isW ws i (⟨#[115,107,105,112]⟩:ByteArray)=false∧isW ws i (⟨#[115,116,111,112]⟩:ByteArray)=false∧xTQ ws i=1:=by
 have hk:xTQ ws i=1:=by rw [X_kind hw h,yAQ hn]
 have key:∀ {t:ByteArray},keys.contains t.data.toList=true→isW ws i t=false:=fun q=>name_words hw hk (by rw [yKQ (ky q)];decide)
 exact ⟨key rfl,key rfl,key rfl,key rfl,key rfl,key rfl,key rfl,hk⟩
structure Rs (ws:List W3) (F:Nat) (t:T):Prop where
 S:GoodS t→∀ (i:Nat) (rest:List ByteArray) (f:Nat),X ws i=tL t++rest→rest.head?≠some ELSE→5 * (tL t).length+3≤F→3 * (tL t).length+1≤f→xFQ ws F f i=.ok t (i+(tL t).length)
 B:GoodB t→∀ (i:Nat) (rest:List ByteArray) (f:Nat),X ws i=([(⟨#[123]⟩:ByteArray)]++tL t++[(⟨#[125]⟩:ByteArray)])++rest→5 * (tL t).length+3≤F→3 * ((tL t).length+2)+2≤f→ysQ ws F f i=.ok t (i+((tL t).length+2))
theorem list_rt {ws:List W3} {F:Nat} (kk:List T) (hg:∀ t∈kk,GoodS t) (ih:∀ t∈kk,Rs ws F t) (hF:5 * (tLs kk).flatten.length+3≤F):∀ (acc:List T) (i:Nat) (rest:List ByteArray) (g:Nat),
    X ws i=(tLs kk).flatten++((⟨#[125]⟩:ByteArray) :: rest)→3 * (tLs kk).flatten.length+2≤g→mList ws F g acc i=.ok (.node 30 nil_ 0 (acc++kk)) (i+((tLs kk).flatten.length+1)):=by
 induction kk with
 | nil =>
   intro acc i rest g hX hf
   obtain ⟨g1,rfl⟩:∃ g1,g=g1+1:=⟨g - 1,by omega⟩
   have hX':X ws i=(⟨#[125]⟩:ByteArray) :: rest:=by rw [hX];simp [tLs]
   obtain ⟨_,_,_,w1⟩:=X_at hX'
   simp only [mList]
   rw [if_pos (by rw [w1];decide),List.append_nil]
   simp [tLs]
 | cons t r ihl =>
   intro acc i rest g hX hf
   have hfl:(tLs (t :: r)).flatten=tL t++(tLs r).flatten:=by simp only [tLs,List.flatten_cons]
   rw [hfl] at hX hf hF ⊢
   rw [List.length_append] at hf hF ⊢
   obtain ⟨s,q,he,hod⟩:=stmt_head t (hg t (by simp))
   have hpos:1≤(tL t).length:=by rw [he];simp
   obtain ⟨g1,rfl⟩:∃ g1,g=g1+1:=⟨g - 1,by omega⟩
   have hX':X ws i=tL t++((tLs r).flatten++((⟨#[125]⟩:ByteArray) :: rest)):=by rw [hX];simp
   have h1:isW ws i (⟨#[125]⟩:ByteArray)=false:=by
    refine X_not hX' ?_
    rw [he]
    exact hne (hod _ (.inr (.inl rfl)))
   have hel:((tLs r).flatten++((⟨#[125]⟩:ByteArray) :: rest)).head?≠some ELSE:=by
    cases r with
    | nil=>simp only [tLs,List.flatten_nil,List.nil_append];exact hne (by decide)
    | cons y r2 =>
      obtain ⟨s2,q2,he2,hod2⟩:=stmt_head y (hg y (by simp))
      simp only [tLs,List.flatten_cons,he2,List.cons_append]
      exact hne (hod2 _ (.inl rfl))
   have e1:=(ih t (by simp)).S (hg t (by simp)) i _ g1 hX' hel (by omega) (by omega)
   have e2:=ihl (fun x hx=>hg x (by simp [hx])) (fun x hx=>ih x (by simp [hx])) (by omega) (acc++[t]) (i+(tL t).length) rest g1 (zwQ hX') (by omega)
   simp only [mList]
   rw [if_neg (by rw [h1];decide),e1]
   simp only [Res.then_]
   rw [e2,List.append_assoc]
   congr 1;omega
theorem semi_rt {ws:List W3} {F f i j:Nat} {x:T} {rest:List ByteArray} (n0:isW ws i (⟨#[105,102]⟩:ByteArray)=false) (n1:isW ws i (⟨#[119,104,105,108,101]⟩:ByteArray)=false) (n2:isW ws i (⟨#[102,111,114]⟩:ByteArray)=false) (h:ybQ ws F i=.ok x j) (hX:X ws j=(⟨#[59]⟩:ByteArray) :: rest):xFQ ws F (f+1) i=.ok x (j+1):=by
 obtain ⟨_,_,_,w1⟩:=X_at hX
 rw [stmt_short_eq n0 n1 n2,h]
 simp only [Res.then_,want]
 rw [if_pos (by rw [w1];decide)]
theorem zyQ {ws:List W3} {i:Nat} {s t:ByteArray} {r:List ByteArray} (h:X ws i=s :: r) (q:s≠t):isW ws i t=false:=by rw [(X_at h).2.2.2];simpa using q
theorem this {ws:List W3} {i:Nat} {s:ByteArray} {r:List ByteArray} (h:X ws i=s :: r):isW ws i s=true:=by rw [(X_at h).2.2.2];simp
theorem stmt_rt {ws:List W3} (hw:WsOk ws) {F:Nat} (t:T):Rs ws F t:=by
 refine T.induct (P:=fun t=>Rs ws F t) ?_ t
 intro k s m kk ih
 refine ⟨fun hg i rest f hX hel hF hf=>?_,fun hg i rest f hX hF hf=>?_⟩
 ·rw [tL_eq] at hX hF hf ⊢
  cases zBQ hg with
  | set h x hk hx hn hm =>
   subst h hk hm
   rw [tEs1] at hX hF hf ⊢
   have hl:([s,(⟨#[61]⟩:ByteArray)]++tE x++[(⟨#[59]⟩:ByteArray)]).length=(tE x).length+3:=by simp
   have hX':X ws i=s :: (⟨#[61]⟩:ByteArray) :: (tE x++((⟨#[59]⟩:ByteArray) :: rest)):=by rw [hX];show ([s,(⟨#[61]⟩:ByteArray)]++tE x++[(⟨#[59]⟩:ByteArray)])++rest=_;simp
   change 5 * ([s,(⟨#[61]⟩:ByteArray)]++tE x++[(⟨#[59]⟩:ByteArray)]).length+3≤F at hF
   change 3 * ([s,(⟨#[61]⟩:ByteArray)]++tE x++[(⟨#[59]⟩:ByteArray)]).length+1≤f at hf
   show _=Res.ok _ (i+([s,(⟨#[61]⟩:ByteArray)]++tE x++[(⟨#[59]⟩:ByteArray)]).length)
   rw [hl] at hF hf ⊢
   obtain ⟨f1,rfl⟩:∃ f1,f=f1+1:=⟨f - 1,by omega⟩
   obtain ⟨n0,n1,n2,n3,n4,n5,n6,k1⟩:=name_stmt hw hX' hn
   obtain ⟨_,ht,x1,_⟩:=X_at hX'
   obtain ⟨_,_,x2,_⟩:=X_at x1
   have e1:=(expr_rt hw x hx).whole (f:=F) x2 (hne (by decide)) (hne (by decide)) (hne (by decide)) (hne (by decide)) (by omega)
   refine (semi_rt (x:=.node 21 s 0 [x]) (j:=i+2+(tE x).length) n0 n1 n2 ?_ (zwQ x2)).trans (by congr 1;omega)
   unfold ybQ yQQ want
   rw [if_neg (by rw [n3];decide),if_neg (by rw [n4];decide),if_neg (by rw [n5];decide),if_neg (by rw [n6];decide),if_pos k1,if_neg (by rw [zyQ x1 (by decide)];decide),if_pos (this x1),show x0Q ws F (i+2)=_ from e1,ht]
   rfl
  | put h x y hk hx hy hn hm =>
   subst h hk hm
   rw [tEs2] at hX hF hf ⊢
   have hl:([s,(⟨#[91]⟩:ByteArray)]++tE x++[(⟨#[93]⟩:ByteArray),(⟨#[61]⟩:ByteArray)]++tE y++[(⟨#[59]⟩:ByteArray)]).length=(tE x).length+(tE y).length+5:=by simp;omega
   have hX':X ws i=s :: (⟨#[91]⟩:ByteArray) :: (tE x++((⟨#[93]⟩:ByteArray) :: (⟨#[61]⟩:ByteArray) :: (tE y++((⟨#[59]⟩:ByteArray) :: rest)))):=by rw [hX];show ([s,(⟨#[91]⟩:ByteArray)]++tE x++[(⟨#[93]⟩:ByteArray),(⟨#[61]⟩:ByteArray)]++tE y++[(⟨#[59]⟩:ByteArray)])++rest=_;simp
   change 5 * ([s,(⟨#[91]⟩:ByteArray)]++tE x++[(⟨#[93]⟩:ByteArray),(⟨#[61]⟩:ByteArray)]++tE y++[(⟨#[59]⟩:ByteArray)]).length+3≤F at hF
   change 3 * ([s,(⟨#[91]⟩:ByteArray)]++tE x++[(⟨#[93]⟩:ByteArray),(⟨#[61]⟩:ByteArray)]++tE y++[(⟨#[59]⟩:ByteArray)]).length+1≤f at hf
   show _=Res.ok _ (i+([s,(⟨#[91]⟩:ByteArray)]++tE x++[(⟨#[93]⟩:ByteArray),(⟨#[61]⟩:ByteArray)]++tE y++[(⟨#[59]⟩:ByteArray)]).length)
   rw [hl] at hF hf ⊢
   obtain ⟨f1,rfl⟩:∃ f1,f=f1+1:=⟨f - 1,by omega⟩
   obtain ⟨n0,n1,n2,n3,n4,n5,n6,k1⟩:=name_stmt hw hX' hn
   obtain ⟨_,ht,x1,_⟩:=X_at hX'
   obtain ⟨_,_,x2,_⟩:=X_at x1
   have e1:=(expr_rt hw x hx).whole (f:=F) x2 (hne (by decide)) (hne (by decide)) (hne (by decide)) (hne (by decide)) (by omega)
   have x3:=zwQ x2
   obtain ⟨_,_,x4,_⟩:=X_at x3
   obtain ⟨_,_,x5,_⟩:=X_at x4
   have e2:=(expr_rt hw y hy).whole (f:=F) x5 (hne (by decide)) (hne (by decide)) (hne (by decide)) (hne (by decide)) (by omega)
   refine (semi_rt (x:=.node 22 s 0 [x,y]) (j:=i+1+1+(tE x).length+1+1+(tE y).length) n0 n1 n2 ?_ (zwQ x5)).trans (by congr 1;omega)
   unfold ybQ yQQ want
   rw [if_neg (by rw [n3];decide),if_neg (by rw [n4];decide),if_neg (by rw [n5];decide),if_neg (by rw [n6];decide),if_pos k1,if_pos (this x1),show x0Q ws F (i+2)=_ from e1]
   simp only [Res.then_]
   rw [if_pos (this x3),if_pos (this x4),show x0Q ws F (i+1+1+(tE x).length+2)=_ from e2,ht]
  | read h hk hn hm =>
   subst h hk hm
   have hX':X ws i=(⟨#[114,101,97,100]⟩:ByteArray) :: s :: (⟨#[59]⟩:ByteArray) :: rest:=hX
   change 3 * 3+1≤f at hf
   obtain ⟨f1,rfl⟩:∃ f1,f=f1+1:=⟨f - 1,by omega⟩
   obtain ⟨_,_,x1,_⟩:=X_at hX'
   obtain ⟨_,ht,x2,_⟩:=X_at x1
   have k1:=X_kind hw x1
   rw [yAQ hn] at k1
   refine semi_rt (x:=.node 23 s 0 []) (j:=i+2) (zyQ hX' (by decide)) (zyQ hX' (by decide)) (zyQ hX' (by decide)) ?_ x2
   unfold ybQ yQQ
   rw [if_pos (this hX'),if_pos k1,ht]
  | chec h c hk hc hs hm =>
   subst h hk hs hm
   rw [tEs1] at hX hF hf ⊢
   have hl:([(⟨#[99,104,101,99,107]⟩:ByteArray)]++tE c++[(⟨#[59]⟩:ByteArray)]).length=(tE c).length+2:=by simp
   have hX':X ws i=(⟨#[99,104,101,99,107]⟩:ByteArray) :: (tE c++((⟨#[59]⟩:ByteArray) :: rest)):=by rw [hX];show ([(⟨#[99,104,101,99,107]⟩:ByteArray)]++tE c++[(⟨#[59]⟩:ByteArray)])++rest=_;simp
   change 5 * ([(⟨#[99,104,101,99,107]⟩:ByteArray)]++tE c++[(⟨#[59]⟩:ByteArray)]).length+3≤F at hF
   change 3 * ([(⟨#[99,104,101,99,107]⟩:ByteArray)]++tE c++[(⟨#[59]⟩:ByteArray)]).length+1≤f at hf
   show _=Res.ok _ (i+([(⟨#[99,104,101,99,107]⟩:ByteArray)]++tE c++[(⟨#[59]⟩:ByteArray)]).length)
   rw [hl] at hF hf ⊢
   obtain ⟨f1,rfl⟩:∃ f1,f=f1+1:=⟨f - 1,by omega⟩
   obtain ⟨_,_,x1,_⟩:=X_at hX'
   obtain ⟨ck,cs,cm,ckk⟩:=c
   have e1:=cond_rt hw hc.good hc.2.1 (f:=F) x1 (hne (by decide)) (hne (by decide)) (hne (by decide)) (hne (by decide)) (by omega)
   refine (semi_rt (x:=.node 27 nil_ 0 [.node ck cs cm ckk]) (j:=i+1+(tE (.node ck cs cm ckk)).length) (zyQ hX' (by decide)) (zyQ hX' (by decide)) (zyQ hX' (by decide)) ?_ (zwQ x1)).trans (by congr 1;omega)
   unfold ybQ
   rw [if_neg (by rw [zyQ hX' (by decide)];decide),if_pos (this hX'),e1]
   rfl
  | skip h hk hs hm =>
   subst h hk hs hm
   have hX':X ws i=(⟨#[115,107,105,112]⟩:ByteArray) :: (⟨#[59]⟩:ByteArray) :: rest:=hX
   change 3 * 2+1≤f at hf
   obtain ⟨f1,rfl⟩:∃ f1,f=f1+1:=⟨f - 1,by omega⟩
   obtain ⟨_,_,x1,_⟩:=X_at hX'
   refine semi_rt (x:=.node 28 nil_ 0 []) (j:=i+1) (zyQ hX' (by decide)) (zyQ hX' (by decide)) (zyQ hX' (by decide)) ?_ x1
   unfold ybQ
   rw [if_neg (by rw [zyQ hX' (by decide)];decide),if_neg (by rw [zyQ hX' (by decide)];decide),if_pos (this hX')]
  | stop h hk hs hm =>
   subst h hk hs hm
   have hX':X ws i=(⟨#[115,116,111,112]⟩:ByteArray) :: (⟨#[59]⟩:ByteArray) :: rest:=hX
   change 3 * 2+1≤f at hf
   obtain ⟨f1,rfl⟩:∃ f1,f=f1+1:=⟨f - 1,by omega⟩
   obtain ⟨_,_,x1,_⟩:=X_at hX'
   refine semi_rt (x:=.node 29 nil_ 0 []) (j:=i+1) (zyQ hX' (by decide)) (zyQ hX' (by decide)) (zyQ hX' (by decide)) ?_ x1
   unfold ybQ
   rw [if_neg (by rw [zyQ hX' (by decide)];decide),if_neg (by rw [zyQ hX' (by decide)];decide),if_neg (by rw [zyQ hX' (by decide)];decide),if_pos (this hX')]
  | whil h c b hk hc hb hs hm =>
   subst h hk hs hm
   rw [tEs2,tLs2] at hX hF hf ⊢
   have hl:([(⟨#[119,104,105,108,101]⟩:ByteArray)]++tE c++[(⟨#[123]⟩:ByteArray)]++tL b++[(⟨#[125]⟩:ByteArray)]).length=(tE c).length+(tL b).length+3:=by simp;omega
   have hX':X ws i=(⟨#[119,104,105,108,101]⟩:ByteArray) :: (tE c++(([(⟨#[123]⟩:ByteArray)]++tL b++[(⟨#[125]⟩:ByteArray)])++rest)):=by rw [hX];show ([(⟨#[119,104,105,108,101]⟩:ByteArray)]++tE c++[(⟨#[123]⟩:ByteArray)]++tL b++[(⟨#[125]⟩:ByteArray)])++rest=_;simp
   change 5 * ([(⟨#[119,104,105,108,101]⟩:ByteArray)]++tE c++[(⟨#[123]⟩:ByteArray)]++tL b++[(⟨#[125]⟩:ByteArray)]).length+3≤F at hF
   change 3 * ([(⟨#[119,104,105,108,101]⟩:ByteArray)]++tE c++[(⟨#[123]⟩:ByteArray)]++tL b++[(⟨#[125]⟩:ByteArray)]).length+1≤f at hf
   show _=Res.ok _ (i+([(⟨#[119,104,105,108,101]⟩:ByteArray)]++tE c++[(⟨#[123]⟩:ByteArray)]++tL b++[(⟨#[125]⟩:ByteArray)]).length)
   rw [hl] at hF hf ⊢
   obtain ⟨f1,rfl⟩:∃ f1,f=f1+1:=⟨f - 1,by omega⟩
   obtain ⟨_,_,x1,_⟩:=X_at hX'
   obtain ⟨ck,cs,cm,ckk⟩:=c
   have hpc:=0
   have e1:=cond_rt hw hc.good hc.2.1 (f:=F) x1 (hne (by decide)) (hne (by decide)) (hne (by decide)) (hne (by decide)) (by omega)
   have hcl:1≤(tE (.node ck cs cm ckk)).length:=by have:=adv_cond e1;omega
   have e2:=(ih b (by simp)).B hb _ rest f1 (zwQ x1) (by omega) (by omega)
   simp only [xFQ]
   rw [if_neg (by rw [zyQ hX' (by decide)];decide),if_pos (this hX'),e1]
   simp only [Res.then_]
   rw [e2]
   show Res.ok _ _=_
   congr 1;omega
  | fors h x y b hk hx hy hb hn hm =>
   subst h hk hm
   rw [tEs3,tLs3] at hX hF hf ⊢
   have hl:([(⟨#[102,111,114]⟩:ByteArray),s,(⟨#[102,114,111,109]⟩:ByteArray)]++tE x++[(⟨#[116,111]⟩:ByteArray)]++tE y++[(⟨#[123]⟩:ByteArray)]++tL b++[(⟨#[125]⟩:ByteArray)]).length=(tE x).length+(tE y).length+(tL b).length+6:=by simp;omega
   have hX':X ws i=(⟨#[102,111,114]⟩:ByteArray) :: s :: (⟨#[102,114,111,109]⟩:ByteArray) :: (tE x++((⟨#[116,111]⟩:ByteArray) :: (tE y++(([(⟨#[123]⟩:ByteArray)]++tL b++[(⟨#[125]⟩:ByteArray)])++rest)))):=by rw [hX];show ([(⟨#[102,111,114]⟩:ByteArray),s,(⟨#[102,114,111,109]⟩:ByteArray)]++tE x++[(⟨#[116,111]⟩:ByteArray)]++tE y++[(⟨#[123]⟩:ByteArray)]++tL b++[(⟨#[125]⟩:ByteArray)])++rest=_;simp
   change 5 * ([(⟨#[102,111,114]⟩:ByteArray),s,(⟨#[102,114,111,109]⟩:ByteArray)]++tE x++[(⟨#[116,111]⟩:ByteArray)]++tE y++[(⟨#[123]⟩:ByteArray)]++tL b++[(⟨#[125]⟩:ByteArray)]).length+3≤F at hF
   change 3 * ([(⟨#[102,111,114]⟩:ByteArray),s,(⟨#[102,114,111,109]⟩:ByteArray)]++tE x++[(⟨#[116,111]⟩:ByteArray)]++tE y++[(⟨#[123]⟩:ByteArray)]++tL b++[(⟨#[125]⟩:ByteArray)]).length+1≤f at hf
   show _=Res.ok _ (i+([(⟨#[102,111,114]⟩:ByteArray),s,(⟨#[102,114,111,109]⟩:ByteArray)]++tE x++[(⟨#[116,111]⟩:ByteArray)]++tE y++[(⟨#[123]⟩:ByteArray)]++tL b++[(⟨#[125]⟩:ByteArray)]).length)
   rw [hl] at hF hf ⊢
   obtain ⟨f1,rfl⟩:∃ f1,f=f1+1:=⟨f - 1,by omega⟩
   obtain ⟨_,_,x1,_⟩:=X_at hX'
   obtain ⟨_,ht,x2,_⟩:=X_at x1
   obtain ⟨_,_,x3,_⟩:=X_at x2
   have k1:=X_kind hw x1
   rw [yAQ hn] at k1
   have e1:=(expr_rt hw x hx).whole (f:=F) x3 (hne (by decide)) (hne (by decide)) (hne (by decide)) (hne (by decide)) (by omega)
   have x4:=zwQ x3
   obtain ⟨_,_,x5,_⟩:=X_at x4
   have e2:=(expr_rt hw y hy).whole (f:=F) x5 (hne (by decide)) (hne (by decide)) (hne (by decide)) (hne (by decide)) (by omega)
   have e3:=(ih b (by simp)).B hb _ rest f1 (zwQ x5) (by omega) (by omega)
   simp only [xFQ,want,yQQ]
   rw [if_neg (by rw [zyQ hX' (by decide)];decide),if_neg (by rw [zyQ hX' (by decide)];decide),if_pos (this hX'),if_pos k1,if_pos (show isW ws (i+2) (⟨#[102,114,111,109]⟩:ByteArray)=true from this x2),show x0Q ws F (i+3)=_ from e1]
   simp only [Res.then_]
   rw [if_pos (show isW ws (i+1+1+1+(tE x).length) (⟨#[116,111]⟩:ByteArray)=true from this x4),show x0Q ws F (i+1+1+1+(tE x).length+1)=_ from e2]
   simp only
   rw [e3,ht]
   show Res.ok _ _=_
   congr 1;omega
  | ifs h c b d hk hc hb hd hs hm =>
   subst h hk hs hm
   rw [tEs3,tLs3] at hX hF hf ⊢
   rw [show ((([c,b,d]:List T)[2]?).map xtQ).getD true=xtQ d from rfl] at hX hF hf ⊢
   obtain ⟨ck,cs,cm,ckk⟩:=c
   cases hz:xtQ d with
   | true =>
    rw [hz] at hX hF hf
    have hd0:d=.node 30 nil_ 0 []:=by
     obtain ⟨dk,dn,dm,dkk⟩:=d
     have q:dk=30:=hd.2
     subst q
     obtain ⟨r1,r2,_⟩:=yMQ hd.1
     have:dkk=[]:=by simpa [xtQ] using hz
     rw [r1,r2,this]
    have hl:([(⟨#[105,102]⟩:ByteArray)]++tE (.node ck cs cm ckk)++[(⟨#[123]⟩:ByteArray)]++tL b++[(⟨#[125]⟩:ByteArray)]).length=(tE (.node ck cs cm ckk)).length+(tL b).length+3:=by simp;omega
    have hX':X ws i=(⟨#[105,102]⟩:ByteArray) :: (tE (.node ck cs cm ckk)++(([(⟨#[123]⟩:ByteArray)]++tL b++[(⟨#[125]⟩:ByteArray)])++rest)):=by rw [hX];show ([(⟨#[105,102]⟩:ByteArray)]++tE (.node ck cs cm ckk)++[(⟨#[123]⟩:ByteArray)]++tL b++[(⟨#[125]⟩:ByteArray)])++rest=_;simp
    change 5 * ([(⟨#[105,102]⟩:ByteArray)]++tE (.node ck cs cm ckk)++[(⟨#[123]⟩:ByteArray)]++tL b++[(⟨#[125]⟩:ByteArray)]).length+3≤F at hF
    change 3 * ([(⟨#[105,102]⟩:ByteArray)]++tE (.node ck cs cm ckk)++[(⟨#[123]⟩:ByteArray)]++tL b++[(⟨#[125]⟩:ByteArray)]).length+1≤f at hf
    show _=Res.ok _ (i+([(⟨#[105,102]⟩:ByteArray)]++tE (.node ck cs cm ckk)++[(⟨#[123]⟩:ByteArray)]++tL b++[(⟨#[125]⟩:ByteArray)]).length)
    rw [hl] at hF hf ⊢
    obtain ⟨f1,rfl⟩:∃ f1,f=f1+1:=⟨f - 1,by omega⟩
    obtain ⟨_,_,x1,_⟩:=X_at hX'
    have e1:=cond_rt hw hc.good hc.2.1 (f:=F) x1 (hne (by decide)) (hne (by decide)) (hne (by decide)) (hne (by decide)) (by omega)
    have hcl:1≤(tE (.node ck cs cm ckk)).length:=by have:=adv_cond e1;omega
    have e2:=(ih b (by simp)).B hb _ rest f1 (zwQ x1) (by omega) (by omega)
    have x2:=zwQ (zwQ x1)
    have hbl:([(⟨#[123]⟩:ByteArray)]++tL b++[(⟨#[125]⟩:ByteArray)]).length=(tL b).length+2:=by simp
    rw [hbl] at x2
    simp only [xFQ]
    rw [if_pos (this hX'),e1]
    simp only [Res.then_]
    rw [e2]
    simp only
    rw [if_neg (by rw [show isW ws (i+1+(tE (.node ck cs cm ckk)).length+((tL b).length+2)) (⟨#[101,108,115,101]⟩:ByteArray)=false from X_not x2 hel];decide),hd0]
    congr 1;omega
   | false =>
    rw [hz] at hX hF hf
    have hl:([(⟨#[105,102]⟩:ByteArray)]++tE (.node ck cs cm ckk)++[(⟨#[123]⟩:ByteArray)]++tL b++[(⟨#[125]⟩:ByteArray),(⟨#[101,108,115,101]⟩:ByteArray),(⟨#[123]⟩:ByteArray)]++tL d++[(⟨#[125]⟩:ByteArray)]).length=(tE (.node ck cs cm ckk)).length+(tL b).length+(tL d).length+6:=by simp;omega
    have hX':X ws i=(⟨#[105,102]⟩:ByteArray) :: (tE (.node ck cs cm ckk)++(([(⟨#[123]⟩:ByteArray)]++tL b++[(⟨#[125]⟩:ByteArray)])++((⟨#[101,108,115,101]⟩:ByteArray) :: (([(⟨#[123]⟩:ByteArray)]++tL d++[(⟨#[125]⟩:ByteArray)])++rest)))):=by rw [hX];show ([(⟨#[105,102]⟩:ByteArray)]++tE (.node ck cs cm ckk)++[(⟨#[123]⟩:ByteArray)]++tL b++[(⟨#[125]⟩:ByteArray),(⟨#[101,108,115,101]⟩:ByteArray),(⟨#[123]⟩:ByteArray)]++tL d++[(⟨#[125]⟩:ByteArray)])++rest=_;simp
    change 5 * ([(⟨#[105,102]⟩:ByteArray)]++tE (.node ck cs cm ckk)++[(⟨#[123]⟩:ByteArray)]++tL b++[(⟨#[125]⟩:ByteArray),(⟨#[101,108,115,101]⟩:ByteArray),(⟨#[123]⟩:ByteArray)]++tL d++[(⟨#[125]⟩:ByteArray)]).length+3≤F at hF
    change 3 * ([(⟨#[105,102]⟩:ByteArray)]++tE (.node ck cs cm ckk)++[(⟨#[123]⟩:ByteArray)]++tL b++[(⟨#[125]⟩:ByteArray),(⟨#[101,108,115,101]⟩:ByteArray),(⟨#[123]⟩:ByteArray)]++tL d++[(⟨#[125]⟩:ByteArray)]).length+1≤f at hf
    show _=Res.ok _ (i+([(⟨#[105,102]⟩:ByteArray)]++tE (.node ck cs cm ckk)++[(⟨#[123]⟩:ByteArray)]++tL b++[(⟨#[125]⟩:ByteArray),(⟨#[101,108,115,101]⟩:ByteArray),(⟨#[123]⟩:ByteArray)]++tL d++[(⟨#[125]⟩:ByteArray)]).length)
    rw [hl] at hF hf ⊢
    obtain ⟨f1,rfl⟩:∃ f1,f=f1+1:=⟨f - 1,by omega⟩
    obtain ⟨_,_,x1,_⟩:=X_at hX'
    have e1:=cond_rt hw hc.good hc.2.1 (f:=F) x1 (hne (by decide)) (hne (by decide)) (hne (by decide)) (hne (by decide)) (by omega)
    have e2:=(ih b (by simp)).B hb _ _ f1 (zwQ x1) (by omega) (by omega)
    have x2:=zwQ (zwQ x1)
    have hbl:([(⟨#[123]⟩:ByteArray)]++tL b++[(⟨#[125]⟩:ByteArray)]).length=(tL b).length+2:=by simp
    rw [hbl] at x2
    obtain ⟨_,_,x3,_⟩:=X_at x2
    have e3:=(ih d (by simp)).B hd _ rest f1 x3 (by omega) (by omega)
    simp only [xFQ]
    rw [if_pos (this hX'),e1]
    simp only [Res.then_]
    rw [e2]
    simp only
    rw [if_pos (this x2),e3]
    show Res.ok _ _=_
    congr 1;omega
 ·obtain ⟨h1,h2⟩:=hg
  have h2':k=30:=h2
  subst h2'
  obtain ⟨r1,r2,r3⟩:=yMQ h1
  subst r1 r2
  rw [tL_eq] at hX hF hf ⊢
  change X ws i=([(⟨#[123]⟩:ByteArray)]++(tLs kk).flatten++[(⟨#[125]⟩:ByteArray)])++rest at hX
  change 5 * (tLs kk).flatten.length+3≤F at hF
  change 3 * ((tLs kk).flatten.length+2)+2≤f at hf
  show _=Res.ok _ (i+((tLs kk).flatten.length+2))
  obtain ⟨f1,rfl⟩:∃ f1,f=f1+1:=⟨f - 1,by omega⟩
  have hX':X ws i=(⟨#[123]⟩:ByteArray) :: ((tLs kk).flatten++((⟨#[125]⟩:ByteArray) :: rest)):=by rw [hX];simp
  obtain ⟨_,_,x1,_⟩:=X_at hX'
  simp only [ysQ,want]
  rw [if_pos (this hX'),list_rt kk r3 ih hF [] (i+1) rest f1 x1 (by omega),List.nil_append]
  congr 1;omega
theorem Stem.base {rb:Nat} {a:Option Addr} {cap:Nat} {ws:List W3} {sz:Nat} {w:World} {p1:Nat} {k:Int} {s:ByteArray} {w':World} {j:Nat} (hL:w'.heap[p1]?=some (.cells #[.int .i64 k,.string s,.int .i64 0,.slice none 0 0] 31 (0,0)))
    (hP:w'.heap[w.heap.size]?=some (.cells #[.int .i64 0,.string ⟨#[]⟩,.int .i64 0,.slice none 0 0] 31 (0,0))) (r:Rd w' rb a cap ws j sz) (st:Step rb w w') (hl:w.heap.size<p1) (hr:rb<w.heap.size):Stem rb a cap ws sz w p1 k s w' [] none 0 j :=
 ⟨hL,hP,World.ownsRow_nil _ _ _ _,trivial,⟨List.nodup_nil,fun b hb=>(by cases hb)⟩,fun g e=>(by cases e),r,st,hl,hr⟩
theorem Stem.rest {rb:Nat} {a:Option Addr} {cap:Nat} {ws:List W3} {sz:Nat} {w:World} {p1:Nat} {k:Int} {s:ByteArray} {w4:World} {els:List A} {sa:Option Addr} {sc j:Nat} {v:Value} (h:Stem rb a cap ws sz w p1 k s (w4.setCell ⟨p1,3,none⟩ v) els sa sc j) :
    w4.heap[w.heap.size]?=some (.cells #[.int .i64 0,.string ⟨#[]⟩,.int .i64 0,.slice none 0 0] 31 (0,0)) :=
 (Below.heap_setCell w4 ⟨p1,3,none⟩ v w.heap.size (by have:=h.lt;show w.heap.size≠p1;omega)).symm.trans h.res
@[reducible] def put8 (w:World) (p:Nat) (v0 v1 v2 v3:Value):World:=(((w.setCell ⟨p,8,none⟩ v0).setCell ⟨p,9,none⟩ v1).setCell ⟨p,10,none⟩ v2).setCell ⟨p,11,none⟩ v3
theorem NewL.app {n n1:Nat} {xs ys:List A} (h:NewL n xs) (hlt:∀ b∈feet xs,b<n1) (hx:NewL n1 ys) (hn:n≤n1):NewL n (xs++ys):=by
 unfold NewL
 rw [yeQ]
 refine ⟨List.nodup_append.2 ⟨h.1,hx.1,fun p hp q hq e=>?_⟩,fun b hb=>?_⟩
 ·have h1:=hlt p hp
  have h2:=hx.2 q hq
  omega
 ·rcases List.mem_append.1 hb with hb | hb
  ·exact h.2 b hb
  ·exact Nat.le_trans hn (hx.2 b hb)
theorem Step.grow {rb:Nat} {a b c:World} (h:Step rb a b) {row:Option Nat} (hg:b.grownBy c row) (hr:∀ k,row=some k→a.heap.size≤k):Step rb a c :=
 ⟨hg.os.trans h.os,hg.tape.trans h.tape,hg.output.trans h.output,Nat.le_trans h.size hg.size,fun k hk hn=>(hg.block k (Nat.lt_of_lt_of_le hk h.size) (fun e=>by have:=hr k e.symm;omega)).trans (h.block k hk hn)⟩
def placeI (ws:List W3) (p:Nat) (sz:Int):Int:=match ws[p]? with
 | some x=>x.a
 | none=>sz
def fuelI (ws:List W3):Nat:=5 * ws.length+10
def yTQ (s:ByteArray):T × Int × Int :=
 if (xkQ s).2.1≠0 then (.node 0 nil_ 0 [],(xkQ s).2.1,(xkQ s).2.2) else
  match mProg (xkQ s).1 (fuelI (xkQ s).1) (fuelI (xkQ s).1) [] 0 with
  | .no p=>(.node 0 nil_ 0 [],4,placeI (xkQ s).1 p s.size)
  | .ok t _=>if dep t≤24∧cnt t≤500 then (t,0,0) else (.node 0 nil_ 0 [],5,0)
theorem scan_env (s:ByteArray) (hs:s.size≤4000) (at_:Nat) (acc:List W3) (ha:∀ x∈acc,(xAQ x.s=x.k∧x.k≠0)∧x.s.size≤4000):∀ x∈(scanI s at_ acc).1,(xAQ x.s=x.k∧x.k≠0)∧x.s.size≤4000:=by
 generalize hf:s.size - at_=f
 induction f using Nat.strongRecOn generalizing at_ acc with
 | _ f ih =>
  by_cases h1:at_<s.size
  ·by_cases hk:xAQ (s.extract at_ (endI s at_))=0
   ·rw [scan_bad h1 hk];intro x hx;cases hx
   ·by_cases hm:acc.length=1500
    ·rw [scan_many h1 hk hm];intro x hx;cases hx
    ·rw [scan_go h1 hk hm]
     have h2:=endI_gt h1
     have h3:=skip_ge s (endI s at_)
     refine ih (s.size - yoQ s (endI s at_)) (by omega) _ _ ?_ rfl
     intro x hx
     rcases List.mem_append.1 hx with hx | hx
     ·exact ha x hx
     ·rw [List.mem_singleton.1 hx]
      exact ⟨⟨rfl,hk⟩,Nat.le_trans (ext_le s _ _) hs⟩
  ·rw [scan_end h1];exact ha
theorem words_env (s:ByteArray):Env (xkQ s).1:=by
 have h:∀ x∈(xkQ s).1,(xAQ x.s=x.k∧x.k≠0)∧x.s.size≤4000:=by
  unfold xkQ
  split
  ·intro x hx;cases hx
  ·exact scan_env s (by omega) _ _ (fun x hx=>by cases hx)
 exact ⟨fun x hx=>(h x hx).1,words_len s,fun x hx=>(h x hx).2⟩
def Parsed (s:ByteArray) (w:World) (e:Ending) (w':World):Prop:=∃ x:A,e=.returned (.tuple #[x.val,.agg #[.int .i64 (yTQ s).2.1,.int .i64 (yTQ s).2.2]])∧x.erase=(yTQ s).1∧Sits w' x∧New w.heap.size x∧Below w.heap.size w w'
theorem two_of {w:World} {p:Nat} {v0 v1:Value} (h:w.heap[p]?=some (.cells #[v0,v1] 85 (0,0))):w.cell? ⟨p,0,none⟩=some v0∧w.cell? ⟨p,1,none⟩=some v1∧w.frozen? ⟨p,0,none⟩=false∧w.frozen? ⟨p,1,none⟩=false :=
 ⟨by rw [Lib.cell_of_heap h];rfl,by rw [Lib.cell_of_heap h];rfl,Lib.frozen_of_heap h 0,Lib.frozen_of_heap h 1⟩
@[reducible] def put2 (w:World) (q:Nat) (v0 v1:Value):World:=(w.setCell ⟨q,0,none⟩ v0).setCell ⟨q,1,none⟩ v1
theorem put2_at {w:World} {q:Nat} {u0 u1:Value} (h:w.heap[q]?=some (.cells #[u0,u1] 85 (0,0))) (v0 v1:Value):(put2 w q v0 v1).heap[q]?=some (.cells #[v0,v1] 85 (0,0)):=by
 rw [heap_setCell_same _ q 1 _ 85 _ (heap_setCell_same _ q 0 _ 85 _ h)];rfl
theorem put2_other {w:World} {q k:Nat} (v0 v1:Value) (h:k≠q):(put2 w q v0 v1).heap[k]?=w.heap[k]?:=by
 rw [Below.heap_setCell _ _ _ _ h,Below.heap_setCell _ _ _ _ h]
theorem put2_size (w:World) (q:Nat) (v0 v1:Value):(put2 w q v0 v1).heap.size=w.heap.size:=by simp [World.setCell]
theorem put2_below {B:Nat} {a w:World} (h:Below B a w) {q:Nat} (hq:B≤q) (v0 v1:Value):Below B a (put2 w q v0 v1):=(h.setCell (p:=⟨q,0,none⟩) hq _).setCell (p:=⟨q,1,none⟩) hq _
theorem put4_below {B:Nat} {a w:World} (h:Below B a w) {q:Nat} (hq:B≤q) (v0 v1 v2 v3:Value):Below B a (put4 w q v0 v1 v2 v3):=(((h.setCell (p:=⟨q,0,none⟩) hq _).setCell (p:=⟨q,1,none⟩) hq _).setCell (p:=⟨q,2,none⟩) hq _).setCell (p:=⟨q,3,none⟩) hq _
theorem out_cells {w:World} {p q:Nat} {u0 u1 u2 u3 v0 v1:Value} (hp:w.heap[p]?=some (.cells #[u0,u1,u2,u3] 31 (0,0))) (hq:w.heap[q]?=some (.cells #[v0,v1] 85 (0,0))) (hpq:p≠q) (a b c d x y:Value) :
    (put2 (put4 w p a b c d) q x y).cell? ⟨p,0,none⟩=some a∧(put2 (put4 w p a b c d) q x y).cell? ⟨p,1,none⟩=some b∧(put2 (put4 w p a b c d) q x y).cell? ⟨p,2,none⟩=some c∧(put2 (put4 w p a b c d) q x y).cell? ⟨p,3,none⟩=some d ∧
    (put2 (put4 w p a b c d) q x y).cell? ⟨q,0,none⟩=some x∧(put2 (put4 w p a b c d) q x y).cell? ⟨q,1,none⟩=some y:=by
 have h1:=(put2_other x y hpq).trans (zLQ hp a b c d)
 have h2:=put2_at ((xLQ a b c d (fun e=>hpq e.symm)).trans hq) x y
 obtain ⟨a0,a1,a2,a3,_⟩:=xcQ h1
 obtain ⟨b0,b1,_⟩:=two_of h2
 exact ⟨a0,a1,a2,a3,b0,b1⟩
def A.v0:A→Value
 | .node k _ _ _ _ _=>.int .i64 k
def A.v1:A→Value
 | .node _ s _ _ _ _=>.string s
def A.v2:A→Value
 | .node _ _ m _ _ _=>.int .i64 m
def A.v3:A→Value
 | .node _ _ _ a c kk=>.slice a kk.length c
theorem below_step' {B:Nat} {a b c:World} (h:Below B a b) (k:Below b.heap.size b c) (hB:B≤b.heap.size):Below B a c:=h.trans (k.mono hB)
end Go.Proofs.YtocbgbkdlfkjjaaGreatDoor
