/- CONTRACTS of the program's rows. -/
import Derived.Test.YtocbgbkdlfkjjaaGreatDoorMHb
set_option maxHeartbeats 1600000
namespace Go.Proofs.YtocbgbkdlfkjjaaGreatDoor
open Go.RowKit
structure Rw where
 grp:Int
 named:Bool
 least:Int
 most:Int
 many:Int
 kids:List Int
def Grps (w:World) (a:Option Addr) (l:List Int):Prop:=l=[]∨∃ b,a=some ⟨b,0,none⟩∧∀ (i:Nat) (x:Int),l[i]?=some x→w.cell? ⟨b,i,none⟩=some (.int .i64 x)
def zYQ (r:Rw) (t:TypeId) (v:Value) (f:FuncId):Prop :=
 (∀ W,(method 358 t v "loop.example/g00093/impl.row").run Tryz.prog W=.ok (f,v) W)∧(∀ W,(callFunc f #[v]).run Tryz.prog W=.ok (.enter f #[v]) W) ∧
 ∀ W,Calls Tryz.prog f #[v] W fun e w'=>(∃ (a:Option Addr) (c:Nat),e=.returned (.agg #[.int .i64 r.grp,.bool r.named,.int .i64 r.least,.int .i64 r.most,.int .i64 r.many,.slice a r.kids.length c])∧Grps w' a r.kids)∧Below W.heap.size W w'
def rw0 (t:Nat):Rw:=match t with
 | 183=>⟨1,false,0,1000000,0,[]⟩
 | 184=>⟨1,true,0,0,0,[]⟩
 | 185=>⟨1,true,0,0,0,[1]⟩
 | 186=>⟨1,true,0,0,0,[]⟩
 | 187=>⟨1,false,0,0,0,[1]⟩
 | 189=>⟨1,false,0,0,0,[1,1]⟩
 | 190=>⟨5,true,0,0,0,[]⟩
 | 191=>⟨5,true,-1,1000000,0,[]⟩
 | 192=>⟨6,false,0,0,5,[4]⟩
 | 193=>⟨2,false,0,0,0,[1,1]⟩
 | 199=>⟨3,true,0,0,0,[1]⟩
 | 200=>⟨3,true,0,0,0,[1,1]⟩
 | 201=>⟨3,true,0,0,0,[]⟩
 | 202=>⟨3,false,0,0,0,[2,4,4]⟩
 | 203=>⟨3,false,0,0,0,[2,4]⟩
 | 204=>⟨3,true,0,0,0,[1,1,4]⟩
 | 205=>⟨3,false,0,0,0,[2]⟩
 | 207=>⟨3,false,0,0,0,[]⟩
 | 208=>⟨4,false,0,0,3,[]⟩
 | _=>⟨0,false,0,0,0,[]⟩
theorem num_row:zYQ (rw0 183) 183 (.agg #[]) 226:=by
 refine ⟨fun W=>by kernel_rfl,fun W=>by kernel_rfl,fun W=>?_⟩
 go_enter Tryz.func226,Tryz.ntmps226
 go_wp2
 refine bodyPost_ret (v:=.agg #[.int .i64 1,.bool false,.int .i64 (0),.int .i64 1000000,.int .i64 0,.slice none 0 0]) (by simp [results,Tryz.results226,go_sem]) rfl ⟨⟨_,_,rfl,?_⟩,?_⟩
 ·exact .inl rfl
 ·exact ((Below.refl _ _).alloc (Nat.le_refl _) _).alloc (by simp) _
theorem var_row:zYQ (rw0 184) 184 (.agg #[]) 227:=by
 refine ⟨fun W=>by kernel_rfl,fun W=>by kernel_rfl,fun W=>?_⟩
 go_enter Tryz.func227,Tryz.ntmps227
 go_wp2
 refine bodyPost_ret (v:=.agg #[.int .i64 1,.bool true,.int .i64 (0),.int .i64 0,.int .i64 0,.slice none 0 0]) (by simp [results,Tryz.results227,go_sem]) rfl ⟨⟨_,_,rfl,?_⟩,?_⟩
 ·exact .inl rfl
 ·exact ((Below.refl _ _).alloc (Nat.le_refl _) _).alloc (by simp) _
theorem cell_row:zYQ (rw0 185) 185 (.agg #[]) 228:=by
 refine ⟨fun W=>by kernel_rfl,fun W=>by kernel_rfl,fun W=>?_⟩
 go_enter Tryz.func228,Tryz.ntmps228
 go_wp2
 refine bodyPost_ret (v:=.agg #[.int .i64 1,.bool true,.int .i64 (0),.int .i64 0,.int .i64 0,.slice (some ⟨W.heap.size+1+1,0,none⟩) 1 1]) (by simp [results,Tryz.results228,go_sem]) rfl ⟨⟨_,_,rfl,?_⟩,?_⟩
 ·refine .inr ⟨_,rfl,fun i x hx=>?_⟩
  match i with
  | 0=>simp [rw0] at hx;subst hx;simp [go_sem]
  | i+1=>simp [rw0] at hx
 ·exact (((Below.refl _ _).alloc (Nat.le_refl _) _).alloc (by simp) _).alloc (by simp;omega) _
theorem len_row:zYQ (rw0 186) 186 (.agg #[]) 229:=by
 refine ⟨fun W=>by kernel_rfl,fun W=>by kernel_rfl,fun W=>?_⟩
 go_enter Tryz.func229,Tryz.ntmps229
 go_wp2
 refine bodyPost_ret (v:=.agg #[.int .i64 1,.bool true,.int .i64 (0),.int .i64 0,.int .i64 0,.slice none 0 0]) (by simp [results,Tryz.results229,go_sem]) rfl ⟨⟨_,_,rfl,?_⟩,?_⟩
 ·exact .inl rfl
 ·exact ((Below.refl _ _).alloc (Nat.le_refl _) _).alloc (by simp) _
theorem neg_row:zYQ (rw0 187) 187 (.agg #[]) 230:=by
 refine ⟨fun W=>by kernel_rfl,fun W=>by kernel_rfl,fun W=>?_⟩
 go_enter Tryz.func230,Tryz.ntmps230
 go_wp2
 refine bodyPost_ret (v:=.agg #[.int .i64 1,.bool false,.int .i64 (0),.int .i64 0,.int .i64 0,.slice (some ⟨W.heap.size+1+1,0,none⟩) 1 1]) (by simp [results,Tryz.results230,go_sem]) rfl ⟨⟨_,_,rfl,?_⟩,?_⟩
 ·refine .inr ⟨_,rfl,fun i x hx=>?_⟩
  match i with
  | 0=>simp [rw0] at hx;subst hx;simp [go_sem]
  | i+1=>simp [rw0] at hx
 ·exact (((Below.refl _ _).alloc (Nat.le_refl _) _).alloc (by simp) _).alloc (by simp;omega) _
theorem pair_row (s:ByteArray):zYQ (rw0 189) 189 (.agg #[.string s]) 231:=by
 refine ⟨fun W=>by kernel_rfl,fun W=>by kernel_rfl,fun W=>?_⟩
 go_enter Tryz.func231,Tryz.ntmps231
 go_wp2
 refine bodyPost_ret (v:=.agg #[.int .i64 1,.bool false,.int .i64 (0),.int .i64 0,.int .i64 0,.slice (some ⟨W.heap.size+1+1,0,none⟩) 2 2]) (by simp [results,Tryz.results231,go_sem]) rfl ⟨⟨_,_,rfl,?_⟩,?_⟩
 ·refine .inr ⟨_,rfl,fun i x hx=>?_⟩
  match i with
  | 0=>simp [rw0] at hx;subst hx;simp [go_sem]
  | 1=>simp [rw0] at hx;subst hx;simp [go_sem]
  | i+2=>simp [rw0] at hx
 ·exact (((Below.refl _ _).alloc (Nat.le_refl _) _).alloc (by simp) _).alloc (by simp;omega) _
theorem name_row:zYQ (rw0 190) 190 (.agg #[]) 232:=by
 refine ⟨fun W=>by kernel_rfl,fun W=>by kernel_rfl,fun W=>?_⟩
 go_enter Tryz.func232,Tryz.ntmps232
 go_wp2
 refine bodyPost_ret (v:=.agg #[.int .i64 5,.bool true,.int .i64 (0),.int .i64 0,.int .i64 0,.slice none 0 0]) (by simp [results,Tryz.results232,go_sem]) rfl ⟨⟨_,_,rfl,?_⟩,?_⟩
 ·exact .inl rfl
 ·exact ((Below.refl _ _).alloc (Nat.le_refl _) _).alloc (by simp) _
theorem array_row:zYQ (rw0 191) 191 (.agg #[]) 233:=by
 refine ⟨fun W=>by kernel_rfl,fun W=>by kernel_rfl,fun W=>?_⟩
 go_enter Tryz.func233,Tryz.ntmps233
 go_wp2
 refine bodyPost_ret (v:=.agg #[.int .i64 5,.bool true,.int .i64 (-1),.int .i64 1000000,.int .i64 0,.slice none 0 0]) (by simp [results,Tryz.results233,go_sem]) rfl ⟨⟨_,_,rfl,?_⟩,?_⟩
 ·exact .inl rfl
 ·exact ((Below.refl _ _).alloc (Nat.le_refl _) _).alloc (by simp) _
theorem prog_row:zYQ (rw0 192) 192 (.agg #[]) 234:=by
 refine ⟨fun W=>by kernel_rfl,fun W=>by kernel_rfl,fun W=>?_⟩
 go_enter Tryz.func234,Tryz.ntmps234
 go_wp2
 refine bodyPost_ret (v:=.agg #[.int .i64 6,.bool false,.int .i64 (0),.int .i64 0,.int .i64 5,.slice (some ⟨W.heap.size+1+1,0,none⟩) 1 1]) (by simp [results,Tryz.results234,go_sem]) rfl ⟨⟨_,_,rfl,?_⟩,?_⟩
 ·refine .inr ⟨_,rfl,fun i x hx=>?_⟩
  match i with
  | 0=>simp [rw0] at hx;subst hx;simp [go_sem]
  | i+1=>simp [rw0] at hx
 ·exact (((Below.refl _ _).alloc (Nat.le_refl _) _).alloc (by simp) _).alloc (by simp;omega) _
theorem cond_row (s:ByteArray):zYQ (rw0 193) 193 (.agg #[.string s]) 235:=by
 refine ⟨fun W=>by kernel_rfl,fun W=>by kernel_rfl,fun W=>?_⟩
 go_enter Tryz.func235,Tryz.ntmps235
 go_wp2
 refine bodyPost_ret (v:=.agg #[.int .i64 2,.bool false,.int .i64 (0),.int .i64 0,.int .i64 0,.slice (some ⟨W.heap.size+1+1,0,none⟩) 2 2]) (by simp [results,Tryz.results235,go_sem]) rfl ⟨⟨_,_,rfl,?_⟩,?_⟩
 ·refine .inr ⟨_,rfl,fun i x hx=>?_⟩
  match i with
  | 0=>simp [rw0] at hx;subst hx;simp [go_sem]
  | 1=>simp [rw0] at hx;subst hx;simp [go_sem]
  | i+2=>simp [rw0] at hx
 ·exact (((Below.refl _ _).alloc (Nat.le_refl _) _).alloc (by simp) _).alloc (by simp;omega) _
theorem set_row:zYQ (rw0 199) 199 (.agg #[]) 236:=by
 refine ⟨fun W=>by kernel_rfl,fun W=>by kernel_rfl,fun W=>?_⟩
 go_enter Tryz.func236,Tryz.ntmps236
 go_wp2
 refine bodyPost_ret (v:=.agg #[.int .i64 3,.bool true,.int .i64 (0),.int .i64 0,.int .i64 0,.slice (some ⟨W.heap.size+1+1,0,none⟩) 1 1]) (by simp [results,Tryz.results236,go_sem]) rfl ⟨⟨_,_,rfl,?_⟩,?_⟩
 ·refine .inr ⟨_,rfl,fun i x hx=>?_⟩
  match i with
  | 0=>simp [rw0] at hx;subst hx;simp [go_sem]
  | i+1=>simp [rw0] at hx
 ·exact (((Below.refl _ _).alloc (Nat.le_refl _) _).alloc (by simp) _).alloc (by simp;omega) _
theorem put_row:zYQ (rw0 200) 200 (.agg #[]) 237:=by
 refine ⟨fun W=>by kernel_rfl,fun W=>by kernel_rfl,fun W=>?_⟩
 go_enter Tryz.func237,Tryz.ntmps237
 go_wp2
 refine bodyPost_ret (v:=.agg #[.int .i64 3,.bool true,.int .i64 (0),.int .i64 0,.int .i64 0,.slice (some ⟨W.heap.size+1+1,0,none⟩) 2 2]) (by simp [results,Tryz.results237,go_sem]) rfl ⟨⟨_,_,rfl,?_⟩,?_⟩
 ·refine .inr ⟨_,rfl,fun i x hx=>?_⟩
  match i with
  | 0=>simp [rw0] at hx;subst hx;simp [go_sem]
  | 1=>simp [rw0] at hx;subst hx;simp [go_sem]
  | i+2=>simp [rw0] at hx
 ·exact (((Below.refl _ _).alloc (Nat.le_refl _) _).alloc (by simp) _).alloc (by simp;omega) _
theorem read_row:zYQ (rw0 201) 201 (.agg #[]) 238:=by
 refine ⟨fun W=>by kernel_rfl,fun W=>by kernel_rfl,fun W=>?_⟩
 go_enter Tryz.func238,Tryz.ntmps238
 go_wp2
 refine bodyPost_ret (v:=.agg #[.int .i64 3,.bool true,.int .i64 (0),.int .i64 0,.int .i64 0,.slice none 0 0]) (by simp [results,Tryz.results238,go_sem]) rfl ⟨⟨_,_,rfl,?_⟩,?_⟩
 ·exact .inl rfl
 ·exact ((Below.refl _ _).alloc (Nat.le_refl _) _).alloc (by simp) _
theorem ifs_row:zYQ (rw0 202) 202 (.agg #[]) 239:=by
 refine ⟨fun W=>by kernel_rfl,fun W=>by kernel_rfl,fun W=>?_⟩
 go_enter Tryz.func239,Tryz.ntmps239
 go_wp2
 refine bodyPost_ret (v:=.agg #[.int .i64 3,.bool false,.int .i64 (0),.int .i64 0,.int .i64 0,.slice (some ⟨W.heap.size+1+1,0,none⟩) 3 3]) (by simp [results,Tryz.results239,go_sem]) rfl ⟨⟨_,_,rfl,?_⟩,?_⟩
 ·refine .inr ⟨_,rfl,fun i x hx=>?_⟩
  match i with
  | 0=>simp [rw0] at hx;subst hx;simp [go_sem]
  | 1=>simp [rw0] at hx;subst hx;simp [go_sem]
  | 2=>simp [rw0] at hx;subst hx;simp [go_sem]
  | i+3=>simp [rw0] at hx
 ·exact (((Below.refl _ _).alloc (Nat.le_refl _) _).alloc (by simp) _).alloc (by simp;omega) _
theorem while_row:zYQ (rw0 203) 203 (.agg #[]) 240:=by
 refine ⟨fun W=>by kernel_rfl,fun W=>by kernel_rfl,fun W=>?_⟩
 go_enter Tryz.func240,Tryz.ntmps240
 go_wp2
 refine bodyPost_ret (v:=.agg #[.int .i64 3,.bool false,.int .i64 (0),.int .i64 0,.int .i64 0,.slice (some ⟨W.heap.size+1+1,0,none⟩) 2 2]) (by simp [results,Tryz.results240,go_sem]) rfl ⟨⟨_,_,rfl,?_⟩,?_⟩
 ·refine .inr ⟨_,rfl,fun i x hx=>?_⟩
  match i with
  | 0=>simp [rw0] at hx;subst hx;simp [go_sem]
  | 1=>simp [rw0] at hx;subst hx;simp [go_sem]
  | i+2=>simp [rw0] at hx
 ·exact (((Below.refl _ _).alloc (Nat.le_refl _) _).alloc (by simp) _).alloc (by simp;omega) _
theorem fors_row:zYQ (rw0 204) 204 (.agg #[]) 241:=by
 refine ⟨fun W=>by kernel_rfl,fun W=>by kernel_rfl,fun W=>?_⟩
 go_enter Tryz.func241,Tryz.ntmps241
 go_wp2
 refine bodyPost_ret (v:=.agg #[.int .i64 3,.bool true,.int .i64 (0),.int .i64 0,.int .i64 0,.slice (some ⟨W.heap.size+1+1,0,none⟩) 3 3]) (by simp [results,Tryz.results241,go_sem]) rfl ⟨⟨_,_,rfl,?_⟩,?_⟩
 ·refine .inr ⟨_,rfl,fun i x hx=>?_⟩
  match i with
  | 0=>simp [rw0] at hx;subst hx;simp [go_sem]
  | 1=>simp [rw0] at hx;subst hx;simp [go_sem]
  | 2=>simp [rw0] at hx;subst hx;simp [go_sem]
  | i+3=>simp [rw0] at hx
 ·exact (((Below.refl _ _).alloc (Nat.le_refl _) _).alloc (by simp) _).alloc (by simp;omega) _
theorem check_row:zYQ (rw0 205) 205 (.agg #[]) 242:=by
 refine ⟨fun W=>by kernel_rfl,fun W=>by kernel_rfl,fun W=>?_⟩
 go_enter Tryz.func242,Tryz.ntmps242
 go_wp2
 refine bodyPost_ret (v:=.agg #[.int .i64 3,.bool false,.int .i64 (0),.int .i64 0,.int .i64 0,.slice (some ⟨W.heap.size+1+1,0,none⟩) 1 1]) (by simp [results,Tryz.results242,go_sem]) rfl ⟨⟨_,_,rfl,?_⟩,?_⟩
 ·refine .inr ⟨_,rfl,fun i x hx=>?_⟩
  match i with
  | 0=>simp [rw0] at hx;subst hx;simp [go_sem]
  | i+1=>simp [rw0] at hx
 ·exact (((Below.refl _ _).alloc (Nat.le_refl _) _).alloc (by simp) _).alloc (by simp;omega) _
theorem word_row (s:ByteArray):zYQ (rw0 207) 207 (.agg #[.string s]) 243:=by
 refine ⟨fun W=>by kernel_rfl,fun W=>by kernel_rfl,fun W=>?_⟩
 go_enter Tryz.func243,Tryz.ntmps243
 go_wp2
 refine bodyPost_ret (v:=.agg #[.int .i64 3,.bool false,.int .i64 (0),.int .i64 0,.int .i64 0,.slice none 0 0]) (by simp [results,Tryz.results243,go_sem]) rfl ⟨⟨_,_,rfl,?_⟩,?_⟩
 ·exact .inl rfl
 ·exact ((Below.refl _ _).alloc (Nat.le_refl _) _).alloc (by simp) _
theorem block_row:zYQ (rw0 208) 208 (.agg #[]) 244:=by
 refine ⟨fun W=>by kernel_rfl,fun W=>by kernel_rfl,fun W=>?_⟩
 go_enter Tryz.func244,Tryz.ntmps244
 go_wp2
 refine bodyPost_ret (v:=.agg #[.int .i64 4,.bool false,.int .i64 (0),.int .i64 0,.int .i64 3,.slice none 0 0]) (by simp [results,Tryz.results244,go_sem]) rfl ⟨⟨_,_,rfl,?_⟩,?_⟩
 ·exact .inl rfl
 ·exact ((Below.refl _ _).alloc (Nat.le_refl _) _).alloc (by simp) _
theorem no_row:zYQ (rw0 209) 209 (.agg #[]) 245:=by
 refine ⟨fun W=>by kernel_rfl,fun W=>by kernel_rfl,fun W=>?_⟩
 go_enter Tryz.func245,Tryz.ntmps245
 go_wp2
 refine bodyPost_ret (v:=.agg #[.int .i64 0,.bool false,.int .i64 (0),.int .i64 0,.int .i64 0,.slice none 0 0]) (by simp [results,Tryz.results245,go_sem]) rfl ⟨⟨_,_,rfl,?_⟩,?_⟩
 ·exact .inl rfl
 ·exact ((Below.refl _ _).alloc (Nat.le_refl _) _).alloc (by simp) _
def typI (kind:Int):Nat :=
 if kind=1 then 183 else
 if kind=2 then 184 else
 if kind=3 then 185 else
 if kind=4 then 186 else
 if kind=5 then 187 else
 if kind=6 then 189 else
 if kind=7 then 189 else
 if kind=8 then 189 else
 if kind=31 then 190 else
 if kind=32 then 191 else
 if kind=40 then 192 else
 if kind=11 then 193 else
 if kind=12 then 193 else
 if kind=13 then 193 else
 if kind=14 then 193 else
 if kind=15 then 193 else
 if kind=16 then 193 else
 if kind=21 then 199 else
 if kind=22 then 200 else
 if kind=23 then 201 else
 if kind=24 then 202 else
 if kind=25 then 203 else
 if kind=26 then 204 else
 if kind=27 then 205 else
 if kind=28 then 207 else
 if kind=29 then 207 else
 if kind=30 then 208 else
 209
def rowI (kind:Int):Rw:=rw0 (typI kind)
def yfQ (kind:Int):ByteArray :=
 if kind=11 then ⟨#[60]⟩ else
 if kind=12 then ⟨#[60,61]⟩ else
 if kind=13 then ⟨#[62]⟩ else
 if kind=14 then ⟨#[62,61]⟩ else
 if kind=15 then ⟨#[61,61]⟩ else
 if kind=16 then ⟨#[33,61]⟩ else
 ⟨#[]⟩
theorem xrQ (kind:Int) (w:World):Calls Tryz.prog 137 #[.int .i64 kind] w fun e w'=>e=.returned (.string (yfQ kind))∧w=w':=by
 by_cases h11:kind=11
 ·subst h11
  go_enter Tryz.func137,Tryz.ntmps137
  go_wp2
  go_ret
  exact ⟨rfl,rfl⟩
 by_cases h12:kind=12
 ·subst h12
  go_enter Tryz.func137,Tryz.ntmps137
  go_wp2
  go_ret
  exact ⟨rfl,rfl⟩
 by_cases h13:kind=13
 ·subst h13
  go_enter Tryz.func137,Tryz.ntmps137
  go_wp2
  go_ret
  exact ⟨rfl,rfl⟩
 by_cases h14:kind=14
 ·subst h14
  go_enter Tryz.func137,Tryz.ntmps137
  go_wp2
  go_ret
  exact ⟨rfl,rfl⟩
 by_cases h15:kind=15
 ·subst h15
  go_enter Tryz.func137,Tryz.ntmps137
  go_wp2
  go_ret
  exact ⟨rfl,rfl⟩
 by_cases h16:kind=16
 ·subst h16
  go_enter Tryz.func137,Tryz.ntmps137
  go_wp2
  go_ret
  exact ⟨rfl,rfl⟩
 have e:yfQ kind=⟨#[]⟩:=by simp [yfQ,h11,h12,h13,h14,h15,h16]
 rw [e]
 go_enter Tryz.func137,Tryz.ntmps137
 go_wp2
 go_ret
 exact ⟨rfl,rfl⟩
theorem stmtForm_any (kind:Int) (w:World) (h1:∀ k∈[1,2,3,4,5,6,7,8,31,32,40,11,12,13,14,15,16],kind≠k):Calls Tryz.prog 138 #[.int .i64 kind] w fun e w'=>(∃ t v f,e=.returned (.iface t v)∧zYQ (rowI kind) t v f)∧w=w':=by
 by_cases h21:kind=21
 ·subst h21
  clear h1
  go_enter Tryz.func138,Tryz.ntmps138
  go_wp2
  go_ret
  exact ⟨⟨_,_,_,rfl,set_row⟩,rfl⟩
 by_cases h22:kind=22
 ·subst h22
  clear h1
  go_enter Tryz.func138,Tryz.ntmps138
  go_wp2
  go_ret
  exact ⟨⟨_,_,_,rfl,put_row⟩,rfl⟩
 by_cases h23:kind=23
 ·subst h23
  clear h1
  go_enter Tryz.func138,Tryz.ntmps138
  go_wp2
  go_ret
  exact ⟨⟨_,_,_,rfl,read_row⟩,rfl⟩
 by_cases h24:kind=24
 ·subst h24
  clear h1
  go_enter Tryz.func138,Tryz.ntmps138
  go_wp2
  go_ret
  exact ⟨⟨_,_,_,rfl,ifs_row⟩,rfl⟩
 by_cases h25:kind=25
 ·subst h25
  clear h1
  go_enter Tryz.func138,Tryz.ntmps138
  go_wp2
  go_ret
  exact ⟨⟨_,_,_,rfl,while_row⟩,rfl⟩
 by_cases h26:kind=26
 ·subst h26
  clear h1
  go_enter Tryz.func138,Tryz.ntmps138
  go_wp2
  go_ret
  exact ⟨⟨_,_,_,rfl,fors_row⟩,rfl⟩
 by_cases h27:kind=27
 ·subst h27
  clear h1
  go_enter Tryz.func138,Tryz.ntmps138
  go_wp2
  go_ret
  exact ⟨⟨_,_,_,rfl,check_row⟩,rfl⟩
 by_cases h28:kind=28
 ·subst h28
  clear h1
  go_enter Tryz.func138,Tryz.ntmps138
  go_wp2
  go_ret
  exact ⟨⟨_,_,_,rfl,word_row _⟩,rfl⟩
 by_cases h29:kind=29
 ·subst h29
  clear h1
  go_enter Tryz.func138,Tryz.ntmps138
  go_wp2
  go_ret
  exact ⟨⟨_,_,_,rfl,word_row _⟩,rfl⟩
 by_cases h30:kind=30
 ·subst h30
  clear h1
  go_enter Tryz.func138,Tryz.ntmps138
  go_wp2
  go_ret
  exact ⟨⟨_,_,_,rfl,block_row⟩,rfl⟩
 have e:rowI kind=rw0 209:=by
  simp at h1
  simp [rowI,typI,h1,h21,h22,h23,h24,h25,h26,h27,h28,h29,h30]
 rw [e]
 clear h1 e
 go_enter Tryz.func138,Tryz.ntmps138
 go_wp2
 go_ret
 exact ⟨⟨_,_,_,rfl,no_row⟩,rfl⟩
theorem formOf_any (kind:Int) (w:World):Calls Tryz.prog 111 #[.int .i64 kind] w fun e w'=>(∃ t v f,e=.returned (.iface t v)∧zYQ (rowI kind) t v f)∧w=w':=by
 by_cases h1:kind=1
 ·subst h1
  go_enter Tryz.func111,Tryz.ntmps111
  go_wp2
  go_ret
  exact ⟨⟨_,_,_,rfl,num_row⟩,rfl⟩
 by_cases h2:kind=2
 ·subst h2
  go_enter Tryz.func111,Tryz.ntmps111
  go_wp2
  go_ret
  exact ⟨⟨_,_,_,rfl,var_row⟩,rfl⟩
 by_cases h3:kind=3
 ·subst h3
  go_enter Tryz.func111,Tryz.ntmps111
  go_wp2
  go_ret
  exact ⟨⟨_,_,_,rfl,cell_row⟩,rfl⟩
 by_cases h4:kind=4
 ·subst h4
  go_enter Tryz.func111,Tryz.ntmps111
  go_wp2
  go_ret
  exact ⟨⟨_,_,_,rfl,len_row⟩,rfl⟩
 by_cases h5:kind=5
 ·subst h5
  go_enter Tryz.func111,Tryz.ntmps111
  go_wp2
  go_ret
  exact ⟨⟨_,_,_,rfl,neg_row⟩,rfl⟩
 by_cases h6:kind=6
 ·subst h6
  go_enter Tryz.func111,Tryz.ntmps111
  go_wp2
  go_ret
  exact ⟨⟨_,_,_,rfl,pair_row _⟩,rfl⟩
 by_cases h7:kind=7
 ·subst h7
  go_enter Tryz.func111,Tryz.ntmps111
  go_wp2
  go_ret
  exact ⟨⟨_,_,_,rfl,pair_row _⟩,rfl⟩
 by_cases h8:kind=8
 ·subst h8
  go_enter Tryz.func111,Tryz.ntmps111
  go_wp2
  go_ret
  exact ⟨⟨_,_,_,rfl,pair_row _⟩,rfl⟩
 by_cases h31:kind=31
 ·subst h31
  go_enter Tryz.func111,Tryz.ntmps111
  go_wp2
  go_ret
  exact ⟨⟨_,_,_,rfl,name_row⟩,rfl⟩
 by_cases h32:kind=32
 ·subst h32
  go_enter Tryz.func111,Tryz.ntmps111
  go_wp2
  go_ret
  exact ⟨⟨_,_,_,rfl,array_row⟩,rfl⟩
 by_cases h40:kind=40
 ·subst h40
  go_enter Tryz.func111,Tryz.ntmps111
  go_wp2
  go_ret
  exact ⟨⟨_,_,_,rfl,prog_row⟩,rfl⟩
 by_cases h11:kind=11
 ·subst h11
  go_enter Tryz.func111,Tryz.ntmps111
  go_wp2_with fail
  refine (xrQ 11 _).mono ?_
  rintro e w1 ⟨rfl,rfl⟩
  rw [show yfQ 11=⟨#[60]⟩ from rfl]
  go_wp2
  go_ret
  exact ⟨⟨_,_,_,rfl,cond_row _⟩,rfl⟩
 by_cases h12:kind=12
 ·subst h12
  go_enter Tryz.func111,Tryz.ntmps111
  go_wp2_with fail
  refine (xrQ 12 _).mono ?_
  rintro e w1 ⟨rfl,rfl⟩
  rw [show yfQ 12=⟨#[60,61]⟩ from rfl]
  go_wp2
  go_ret
  exact ⟨⟨_,_,_,rfl,cond_row _⟩,rfl⟩
 by_cases h13:kind=13
 ·subst h13
  go_enter Tryz.func111,Tryz.ntmps111
  go_wp2_with fail
  refine (xrQ 13 _).mono ?_
  rintro e w1 ⟨rfl,rfl⟩
  rw [show yfQ 13=⟨#[62]⟩ from rfl]
  go_wp2
  go_ret
  exact ⟨⟨_,_,_,rfl,cond_row _⟩,rfl⟩
 by_cases h14:kind=14
 ·subst h14
  go_enter Tryz.func111,Tryz.ntmps111
  go_wp2_with fail
  refine (xrQ 14 _).mono ?_
  rintro e w1 ⟨rfl,rfl⟩
  rw [show yfQ 14=⟨#[62,61]⟩ from rfl]
  go_wp2
  go_ret
  exact ⟨⟨_,_,_,rfl,cond_row _⟩,rfl⟩
 by_cases h15:kind=15
 ·subst h15
  go_enter Tryz.func111,Tryz.ntmps111
  go_wp2_with fail
  refine (xrQ 15 _).mono ?_
  rintro e w1 ⟨rfl,rfl⟩
  rw [show yfQ 15=⟨#[61,61]⟩ from rfl]
  go_wp2
  go_ret
  exact ⟨⟨_,_,_,rfl,cond_row _⟩,rfl⟩
 by_cases h16:kind=16
 ·subst h16
  go_enter Tryz.func111,Tryz.ntmps111
  go_wp2_with fail
  refine (xrQ 16 _).mono ?_
  rintro e w1 ⟨rfl,rfl⟩
  rw [show yfQ 16=⟨#[33,61]⟩ from rfl]
  go_wp2
  go_ret
  exact ⟨⟨_,_,_,rfl,cond_row _⟩,rfl⟩
 have e:yfQ kind=⟨#[]⟩:=by simp [yfQ,h11,h12,h13,h14,h15,h16]
 have HA:=xaQ (show ∀ k∈[1,2,3,4,5,6,7,8,31,32,40,11,12,13,14,15,16],kind≠k by intro k hk;simp at hk;omega)
 go_enter Tryz.func111,Tryz.ntmps111
 go_wp2_with fail
 refine (xrQ kind _).mono ?_
 rintro e1 w1 ⟨rfl,rfl⟩
 rw [e]
 go_wp2_with fail
 refine (stmtForm_any kind _ HA.out).mono ?_
 rintro e w1 ⟨⟨t,v,f,rfl,hf⟩,rfl⟩
 have HF:=xaQ hf
 clear hf
 go_wp2
 go_ret
 exact ⟨⟨_,_,_,rfl,HF.out⟩,rfl⟩
end Go.Proofs.YtocbgbkdlfkjjaaGreatDoor
