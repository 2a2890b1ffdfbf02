/-
  For GroupFinal: mathematics of the index and of what is delivered; appends of ints with their frame; cuts of a read slice of entries; the head of a heap. No condition but lengths below 2^40.
-/
import Derived.Test.YtbnmeedmeikepaaGmVs
namespace Go.Proofs.Ytbnmeedmeikepaa
open Go.RowKit
set_option linter.unusedVariables false
set_option linter.unusedSimpArgs false

/-! ### the index for which a stamp can be final -/
def fxR (g : Gp) (m : Int) (s : St) : Int := if fiOk g m s then plI g.P m else -1

theorem fx_taken {g : Gp} (h : Vd g) {m : Int} {s : St} {y : En} (hy : y ∈ g.P) (h1 : y.1 ≠ m) (h2 : y.2.1 = s) : fiOk g m s = false := by
  cases hf : fiOk g m s with
  | false => rfl
  | true =>
    obtain ⟨x, hx⟩ := (fiOk_iff h m s).1 hf
    exact absurd h2 (hx.2.2.2.2 y (.inr hy) h1)

theorem fx_miss {g : Gp} {m : Int} {s : St} (h : plI g.P m = -1) : fiOk g m s = false := by simp [fiOk, h]

theorem fx_at {g : Gp} (h : Vd g) {m : Int} {s : St} {x : En} {k : Nat} (hx : g.P[k]? = some x) (hm : x.1 = m) (hall : ∀ y ∈ g.P, y.1 ≠ m → y.2.1 ≠ s) : fiOk g m s = (!x.2.2 && !ltS s x.2.1) := by
  have hmem : x ∈ g.P := List.mem_of_getElem? hx
  cases hf : fiOk g m s with
  | true =>
    obtain ⟨y, hy1, hy2, hy3, hy4, _⟩ := (fiOk_iff h m s).1 hf
    have e : y = x := same_msg h.P hy1 hmem (by rw [hy2, hm])
    subst e
    rw [hy3, hy4]; rfl
  | false =>
    cases h1 : x.2.2 with
    | true => rfl
    | false =>
      cases h2 : ltS s x.2.1 with
      | true => rfl
      | false =>
        have : fiOk g m s = true := (fiOk_iff h m s).2 ⟨x, hmem, hm, h1, h2, fun e he hne => by
          rcases he with he | he
          · intro e1
            have h3 := (h.lt he hmem).1
            rw [e1, h2] at h3
            cases h3
          · exact hall e he hne⟩
        rw [hf] at this; cases this

/-! ### what is delivered -/
theorem tld_at {l : List En} {j : Nat} (h1 : ∀ e ∈ l.take j, e.2.2 = true) (h2 : blkB (l.drop j) = true) : tld l = l.take j ∧ lft l = l.drop j := by
  have h3 : ((l.drop j).head?.all fun e => !e.2.2) = true := by rw [blk_head]; exact h2
  constructor
  · calc tld l = tld (l.take j ++ l.drop j) := by rw [List.take_append_drop]
      _ = l.take j ++ tld (l.drop j) := tld_app h1
      _ = l.take j := by rw [tld_none h3, List.append_nil]
  · calc lft l = lft (l.take j ++ l.drop j) := by rw [List.take_append_drop]
      _ = lft (l.drop j) := lft_app h1
      _ = l.drop j := lft_none h3

theorem take_more {l : List En} {j : Nat} {x : En} (hx : l[j]? = some x) (hf : x.2.2 = true) (h : ∀ e ∈ l.take j, e.2.2 = true) : ∀ e ∈ l.take (j + 1), e.2.2 = true := by
  rw [take_snocE hx]
  intro e he
  rcases List.mem_append.1 he with he | he
  · exact h e he
  · rw [List.mem_singleton.1 he]; exact hf

theorem drop_consE {l : List En} {j : Nat} {x : En} (hx : l[j]? = some x) : l.drop j = x :: l.drop (j + 1) := by
  obtain ⟨hj, e⟩ := List.getElem?_eq_some_iff.1 hx
  rw [← e]; exact (List.getElem_cons_drop hj).symm

theorem ins_len {l : List En} {m : Int} {s : St} {k : Nat} (hk : pla l m = k) (hl : k < l.length) : (ins l m s).length = l.length := by
  have h1 := (ins_perm l m s).length_eq
  have h2 := (rst_perm hk hl).length_eq
  simp only [List.length_cons] at h1 h2
  omega

theorem msgs_app (l m : List En) : msgs (l ++ m) = msgs l ++ msgs m := by simp [msgs]

theorem key_set_same {l : List En} {k : Nat} {x : En} (h : k < l.length) : keyE (l.set k x) k = x.2.1 := by simp [keyE, atE, h]

theorem key_set_other {l : List En} {k j : Nat} {x : En} (h : j ≠ k) : keyE (l.set k x) j = keyE l j := by
  have : k ≠ j := fun e => h e.symm
  simp [keyE, atE, this]

/-! ### appends of ints, with their frame -/
theorem und_int : Try.prog.underlying 41 = some (.slice 3) := Try.underlying41

theorem run_appI {w : World} {ty : TypeId} {B Br : Nat} {v : Value} {zs ys : List Int} {ad : Addr} {m c : Nat} (hown : OwI w B v zs) (hr : RdI w Br (some ad) m ys) (hB : B ≤ w.heap.size) (hn : zs.length + m < 1099511627776) (hm : 0 < m) :
    ∃ v' w', (Builtin.append_ #[41, 41] ty #[v, .slice (some ad) m c]).run Try.prog w = .ok v' w' ∧ OwI w' B v' (zs ++ ys) ∧ w.grownBy w' v.ownBlock ∧ (v'.ownBlock = v.ownBlock ∨ v'.ownBlock = some w.heap.size) := by
  obtain ⟨i0, hi, hz0, hz1, hz2⟩ := info_parts info_int
  have hl : ys.length = m := hr.len
  have hc : ∀ j u, (ints ys)[j]? = some u → w.cell? (ad.add j) = some u := by
    intro j u hu
    obtain ⟨ad', e, _, hcc⟩ := hr.2 hm
    injection e with e
    subst e
    exact hcc j u hu
  obtain ⟨v', w', h1, h2, h3, _, h5⟩ := run_append_own_at (P := Try.prog) w B 41 ty 3 i0 (.int .i64 0) 1 8 und_int hi hz0 hz1 hz2 rfl (by decide) v zs.length (ints zs) hown ad m c (ints ys) (by simp [ints, hl]) hc (ints_one ys) (by unfold maxLen; omega) (by omega) hB
  refine ⟨v', w', h1, ?_, h3, h5⟩
  show w'.ownsRow B 3 1 v' (zs ++ ys).length (ints (zs ++ ys))
  have e : (zs ++ ys).length = zs.length + m := by rw [List.length_append, hl]
  rw [e]
  simpa [ints] using h2
section
variable {w : World} {ops : Array Oper} {o : Oper} {a : Act} {K : Act → World → Prop} {Q : Exit → Act → World → Prop}

theorem wp_appI (s x : Operand)
    (ho : o.op = .call { callee := .builtin .append, args := #[s, x], argTypes := #[41, 41] }) {B Br : Nat} {v : Value} {zs ys : List Int} {ad : Addr} {m c : Nat} (hs : a.eval s = v) (hx : a.eval x = .slice (some ad) m c) (hown : OwI w B v zs) (hr : RdI w Br (some ad) m ys) (hB : B ≤ w.heap.size) (hn : zs.length + m < 1099511627776) (hm : 0 < m)
    (h : ∀ v' w', OwI w' B v' (zs ++ ys) → w.grownBy w' v.ownBlock → (v'.ownBlock = v.ownBlock ∨ v'.ownBlock = some w.heap.size) → K (a.put o.dst v') w') : o.wp Try.prog a w K Q := by
  obtain ⟨v', w', h1, h2, h3, h4⟩ := run_appI (ty := o.type) (c := c) hown hr hB hn hm
  unfold Oper.wp execOp
  simp only [ho, resolve, invoke, builtin, Sem.run_bind, Sem.run_pure, Result.andThen_ok, List.map_toArray, List.map_cons, List.map_nil, hs, hx, h1]
  exact h v' w' h2 h3 h4

theorem wpList_appI2 {rest : List Oper} (hgd : o.guard = none) (s x : Operand)
    (ho : o.op = .call { callee := .builtin .append, args := #[s, x], argTypes := #[41, 41] }) {B Br : Nat} {v : Value} {zs ys : List Int} {ad : Addr} {m c : Nat} (hs : a.eval s = v) (hx : a.eval x = .slice (some ad) m c) (hown : OwI w B v zs) (hr : RdI w Br (some ad) m ys) (hB : B ≤ w.heap.size) (hn : zs.length + m < 1099511627776) (hm : 0 < m)
    (h : ∀ v' w', OwI w' B v' (zs ++ ys) → w.grownBy w' v.ownBlock → (v'.ownBlock = v.ownBlock ∨ v'.ownBlock = some w.heap.size) → wpList Try.prog ops Q rest (a.put o.dst v') w') : wpList Try.prog ops Q (o :: rest) a w :=
  wpList_plain hgd fun _ hK => wp_appI s x ho hs hx hown hr hB hn hm fun v' w' h1 h2 h3 => hK _ _ (h v' w' h1 h2 h3)

theorem step_appI {E : Prop} (hgd : o.guard = none) (s x : Operand)
    (ho : o.op = .call { callee := .builtin .append, args := #[s, x], argTypes := #[41, 41] }) {B Br : Nat} {v : Value} {zs ys : List Int} {ad : Addr} {m c : Nat} (hs : a.eval s = v) (hx : a.eval x = .slice (some ad) m c) (hown : OwI w B v zs) (hr : RdI w Br (some ad) m ys) (hB : B ≤ w.heap.size) (hn : zs.length + m < 1099511627776) (hm : 0 < m)
    (h : ∀ v' w', OwI w' B v' (zs ++ ys) → w.grownBy w' v.ownBlock → (v'.ownBlock = v.ownBlock ∨ v'.ownBlock = some w.heap.size) → K (a.put o.dst v') w') :
    if Region.wanted o (yielded ops a.tmps) = true then Oper.wp Try.prog o a w K Q else E := by
  have hw : Region.wanted o (yielded ops a.tmps) = true := by simp [Region.wanted, hgd]
  rw [if_pos hw]
  exact wp_appI s x ho hs hx hown hr hB hn hm h
end
/-- a literal of one int -/
theorem RdI.lit1 (w : World) (m : Int) : RdI (w.alloc (.cells #[.int .i64 m] 3)) (w.heap.size + 1) (some ⟨w.heap.size, 0, none⟩) 1 [m] := by
  refine ⟨rfl, fun _ => ⟨⟨w.heap.size, 0, none⟩, rfl, Nat.lt_succ_self _, fun j u hu => ?_⟩⟩
  match j, hu with
  | 0, hu =>
    simp [ints] at hu
    subst hu
    exact (Cs.new w 3 #[.int .i64 m]).cell 0

theorem RdE.of_cs {w : World} {b : Nat} {m t k : Int} {f : Bool} (h : Cs w b 34 #[.int .i64 m, .int .i64 t, .int .i64 k, .bool f]) : RdE w w.heap.size (some ⟨b, 0, none⟩) 1 [(m, (t, k), f)] :=
  ⟨rfl, fun _ => ⟨b, 0, rfl, h.lt, fun j x hx => by
    match j, hx with
    | 0, hx =>
      simp at hx
      subst hx
      exact ⟨h.cell 0, h.cell 1, h.cell 2, h.cell 3⟩⟩⟩

theorem grown_cs {w w' : World} {b : Nat} {T : TypeId} {cs : Array Value} {row : Option Nat} (h : Cs w b T cs) (hg : w.grownBy w' row) (hne : row ≠ some b) : Cs w' b T cs :=
  (hg.block b h.lt (fun e => hne e.symm)).trans h

theorem cell_far_b {w : World} {b ob k i : Nat} {v u : Value} (hne : b ≠ ob) (h : w.cell? ⟨b, k, none⟩ = some v) : (w.setCell ⟨ob, i, none⟩ u).cell? ⟨b, k, none⟩ = some v :=
  (World.cell?_of_block (Below.heap_setCell w ⟨ob, i, none⟩ u b hne)).trans h

/-! ### a slice cut -/
theorem RdE.cut_ {w : World} {B n k : Nat} {A A' : Option Addr} {zs : List En} (h : RdE w B A n zs) (hk : k ≤ n) (hA : ∀ b off, A = some ⟨b, off, none⟩ → k < n → A' = some ⟨b, off + k * 4, none⟩) : RdE w B A' (n - k) (zs.drop k) := by
  by_cases hlt : k < n
  · obtain ⟨b, off, e, _⟩ := h.2 (by omega)
    subst e
    rw [hA b off rfl hlt]
    exact h.drop hk
  · have e : n - k = 0 := by omega
    rw [e]
    exact h.empty k (by omega)

/-- the model's 's[l:]' -/
theorem cutE_lo {n c l : Nat} {A : Option Addr} {x : Int} (hx : x = (l : Int)) (hl : l ≤ n) (hc : n ≤ c) :
    ∃ A', (∀ W, (Instr.sliceAt 23 (.slice A n c) (some (.int .i64 x)) none none).run Try.prog W = .ok (.slice A' (n - l) (c - l)) W) ∧ (∀ W B zs, RdE W B A n zs → RdE W B A' (n - l) (zs.drop l)) ∧ (∀ b off, A = some ⟨b, off, none⟩ → l < n → A' = some ⟨b, off + l * 4, none⟩) := by
  subst hx
  have h3 : ∀ b off, A = some ⟨b, off, none⟩ → l < n → (if c = l then A else A.map (·.add (l * 4))) = some ⟨b, off + l * 4, none⟩ := fun b off e hlt => by
    subst e; rw [if_neg (by omega)]; simp [Addr.add]
  refine ⟨if c = l then A else A.map (·.add (l * 4)), fun W => ?_, fun W B zs h => h.cut_ hl h3, h3⟩
  rw [run_sliceAt_slice (P := Try.prog) W 23 _ _ _ _ (by kernel_rfl), run_slice_l (P := Try.prog) W 23 _ _ _ (by kernel_rfl) _ _ (by omega) (by omega)]
  rw [show (sizeOf (Try.prog.elem 23)).run Try.prog W = .ok 4 W from by kernel_rfl]
  simp only [Result.andThen, sliced, Int.toNat_natCast]

/-! ### the head of a heap in memory -/
theorem HpIs.perm {w : World} {lo hb g n c : Nat} {S T : List En} (h : HpIs w lo hb g n c S) (hp : S.Perm T) : HpIs w lo hb g n c T := by
  obtain ⟨zs, h1, h2, h3⟩ := h
  exact ⟨zs, h1, h2, h3.trans hp⟩

theorem HpIs.blk {w : World} {lo hb g n c : Nat} {S : List En} (h : HpIs w lo hb g n c S) (hS : AscE S) : ∃ zs, HMs w lo hb g n c zs ∧ Hp zs n ∧ zs.Perm S ∧ blkB zs = blkB S := by
  obtain ⟨zs, h1, h2, h3⟩ := h
  refine ⟨zs, h1, h2, h3, ?_⟩
  cases S with
  | nil => rw [List.Perm.eq_nil h3]
  | cons s T =>
    have hl : zs.length = n := h1.2.2.1
    have h4 : atE zs 0 = s := by
      have h5 : Hp zs zs.length := by rw [hl]; exact h2
      exact h5.head h3 hS
    cases zs with
    | nil => have := h3.length_eq; simp at this
    | cons z zs =>
      have e : z = s := by simpa [atE] using h4
      subst e
      rfl
/-- the four blocks: the group, the stamp, the result, the copy -/
def FiSt (w W : World) (ho : Nat) (gc sc oc : Array Value) : Prop :=
  Cs W w.heap.size 25 gc ∧ Cs W (w.heap.size + 1) 29 sc ∧ Cs W (w.heap.size + 1 + 1) 25 #[.int .i64 0, .int .i64 0, .slice none 0 0, .slice none 0 0] ∧ Cs W ho 25 oc ∧ Below w.heap.size w W

theorem FiSt.step {w W W' : World} {ho : Nat} {gc sc oc : Array Value} (h : FiSt w W ho gc sc oc) (hb : Below W.heap.size W W') : FiSt w W' ho gc sc oc :=
  ⟨h.1.step hb, h.2.1.step hb, h.2.2.1.step hb, h.2.2.2.1.step hb, h.2.2.2.2.trans (hb.mono h.2.2.2.2.size)⟩

theorem FiSt.kp {w W W' : World} {ho : Nat} {gc sc oc : Array Value} {S : Nat → Prop} (h : FiSt w W ho gc sc oc) (hk : Kp S W W') (hS : ∀ b, S b → w.heap.size + 1 + 1 < b ∧ b ≠ ho) : FiSt w W' ho gc sc oc :=
  ⟨h.1.kp hk (fun h => by have := hS _ h; omega), h.2.1.kp hk (fun h => by have := hS _ h; omega), h.2.2.1.kp hk (fun h => by have := hS _ h; omega), h.2.2.2.1.kp hk (fun h => (hS _ h).2 rfl), h.2.2.2.2.trans (hk.base h.2.2.2.2.size (fun i hi => by have := hS i hi; omega))⟩

def FiPost (id' ck' : Int) (b' : Bool) (P' D' : List En) (T' : List Int) (w : World) (e : Ending) (w' : World) : Prop :=
  ∃ (A1 : Option Addr) (c1 : Nat) (A2 : Option Addr) (c2 : Nat) (A3 : Option Addr) (c3 : Nat), e = .returned (.tuple #[gpV id' ck' (.slice A1 P'.length c1) (.slice A2 D'.length c2), .slice A3 T'.length c3, .bool b']) ∧
    OwG w' w.heap.size A1 P'.length c1 A2 D'.length c2 P' D' ∧ OwI w' w.heap.size (.slice A3 T'.length c3) T' ∧ Below w.heap.size w w'

theorem Kp.ownI {S : Nat → Prop} {w w' : World} {B : Nat} {v : Value} {zs : List Int} (h : Kp S w w') (ho : OwI w B v zs) (hS : ∀ k, v.ownBlock = some k → ¬ S k) : OwI w' B v zs :=
  own_of_block ho fun g hg => h.block g (ho.lt g hg).2 (hS g hg)


/-! ### the model's loop that delivers -/
theorem FiSt.set {w W : World} {ho : Nat} {gc sc oc : Array Value} (h : FiSt w W ho gc sc oc) (hh : w.heap.size + 1 + 1 < ho) (i : Nat) (u : Value) : FiSt w (W.setCell ⟨ho, i, none⟩ u) ho gc sc (oc.setIfInBounds i u) :=
  ⟨h.1.far (by simp; omega) u, h.2.1.far (by simp; omega) u, h.2.2.1.far (by simp; omega) u, h.2.2.2.1.set i u, h.2.2.2.2.setCell (by simp; omega) u⟩

theorem FiSt.drew {w W : World} {ho : Nat} {gc sc oc : Array Value} (h : FiSt w W ho gc sc oc) : FiSt w W.drew ho gc sc oc := h.step (Below.refl _ _).drew

structure FL (w W : World) (ob : Nat) (gc sc : Array Value) (id ck : Int) (I D : List En) (pb pcap j jd jt : Nat) (pA dA : Option Addr) (dc : Nat) (tA : Option Addr) (tc : Nat) : Prop where
  st : FiSt w W ob gc sc #[.int .i64 id, .int .i64 ck, .slice pA (I.length - j) (pcap - j), .slice dA (D.length + jd) dc]
  po : OwE W (w.heap.size + 1 + 1 + 1) (.slice (some ⟨pb, 0, none⟩) I.length pcap) I
  pa : j < I.length → pA = some ⟨pb, 0 + j * 4, none⟩
  dn : OwE W (w.heap.size + 1 + 1 + 1) (.slice dA (D.length + jd) dc) (D ++ I.take jd)
  td : OwI W (w.heap.size + 1 + 1 + 1) (.slice tA jt tc) (msgs (I.take jt))
  jl : j ≤ I.length
  n1 : pb ≠ ob
  n2 : ∀ b, (Value.slice tA jt tc).ownBlock = some b → b ≠ ob ∧ b ≠ pb
  n3 : ∀ b, (Value.slice dA (D.length + jd) dc).ownBlock = some b → b ≠ ob ∧ b ≠ pb ∧ (Value.slice tA jt tc).ownBlock ≠ some b
section
variable {w W W' : World} {ob : Nat} {gc sc : Array Value} {id ck : Int} {I D : List En} {pb pcap j jd jt : Nat} {pA dA : Option Addr} {dc : Nat} {tA : Option Addr} {tc : Nat}

theorem FL.rp (h : FL w W ob gc sc id ck I D pb pcap j jd jt pA dA dc tA tc) : RdE W W.heap.size pA (I.length - j) (I.drop j) :=
  (h.po.rd rfl).cut_ h.jl (fun b off e hlt => by injection e with e; injection e with e1 e2; subst e1; subst e2; exact h.pa hlt)

theorem FL.below (h : FL w W ob gc sc id ck I D pb pcap j jd jt pA dA dc tA tc) (hb : Below W.heap.size W W') : FL w W' ob gc sc id ck I D pb pcap j jd jt pA dA dc tA tc :=
  ⟨h.st.step hb, h.po.below hb, h.pa, h.dn.below hb, own_of_block h.td (fun g hg => hb.block g (h.td.lt g hg).2), h.jl, h.n1, h.n2, h.n3⟩

theorem FL.told (h : FL w W ob gc sc id ck I D pb pcap j jd jt pA dA dc tA tc) {tA' : Option Addr} {tc' : Nat} (hk : Kp (fun b => (Value.slice tA jt tc).ownBlock = some b) W W') (ho : OwI W' (w.heap.size + 1 + 1 + 1) (.slice tA' (jt + 1) tc') (msgs (I.take (jt + 1))))
    (hv : (Value.slice tA' (jt + 1) tc').ownBlock = (Value.slice tA jt tc).ownBlock ∨ ∃ B, W.heap.size ≤ B ∧ (Value.slice tA' (jt + 1) tc').ownBlock = some B) : FL w W' ob gc sc id ck I D pb pcap j jd (jt + 1) pA dA dc tA' tc' := by
  have hpb := h.po.lt pb rfl
  have hob := h.st.2.2.2.1.lt
  refine ⟨h.st.kp hk (fun b hb => ⟨(h.td.lt b hb).1, (h.n2 b hb).1⟩), hk.own h.po (fun b hb hS => by injection hb with hb; subst hb; exact (h.n2 _ hS).2 rfl), h.pa, hk.own h.dn (fun b hb hS => (h.n3 b hb).2.2 hS), ho, h.jl, h.n1, fun b hb => ?_, fun b hb => ⟨(h.n3 b hb).1, (h.n3 b hb).2.1, fun hb2 => ?_⟩⟩
  · rcases hv with hv | ⟨B, hB, hv⟩
    · exact h.n2 b (hv.symm.trans hb)
    · rw [hv] at hb; injection hb with hb; subst hb
      exact ⟨by omega, by have := hpb.2; omega⟩
  · rcases hv with hv | ⟨B, hB, hv⟩
    · exact (h.n3 b hb).2.2 (hv.symm.trans hb2)
    · rw [hv] at hb2; injection hb2 with hb2; subst hb2
      have := (h.dn.lt _ hb).2; omega

theorem FL.done (h : FL w W ob gc sc id ck I D pb pcap j jd jt pA dA dc tA tc) (hh : w.heap.size + 1 + 1 < ob) {dA' : Option Addr} {dc' : Nat} (hk : Kp (fun b => (Value.slice dA (D.length + jd) dc).ownBlock = some b) W W') (ho : OwE W' (w.heap.size + 1 + 1 + 1) (.slice dA' (D.length + (jd + 1)) dc') (D ++ I.take (jd + 1)))
    (hv : (Value.slice dA' (D.length + (jd + 1)) dc').ownBlock = (Value.slice dA (D.length + jd) dc).ownBlock ∨ ∃ B, W.heap.size ≤ B ∧ (Value.slice dA' (D.length + (jd + 1)) dc').ownBlock = some B) : FL w (W'.setCell ⟨ob, 3, none⟩ (.slice dA' (D.length + (jd + 1)) dc')) ob gc sc id ck I D pb pcap j (jd + 1) jt pA dA' dc' tA tc := by
  have hpb := h.po.lt pb rfl
  have hob := h.st.2.2.2.1.lt
  have hn3 : ∀ b, (Value.slice dA' (D.length + (jd + 1)) dc').ownBlock = some b → b ≠ ob ∧ b ≠ pb ∧ (Value.slice tA jt tc).ownBlock ≠ some b := fun b hb => by
    rcases hv with hv | ⟨B, hB, hv⟩
    · exact h.n3 b (hv.symm.trans hb)
    · rw [hv] at hb; injection hb with hb; subst hb
      exact ⟨by omega, by have := hpb.2; omega, fun hb2 => by have := (h.td.lt _ hb2).2; omega⟩
  have hs : FiSt w W' ob gc sc #[.int .i64 id, .int .i64 ck, .slice pA (I.length - j) (pcap - j), .slice dA (D.length + jd) dc] := h.st.kp hk (fun b hb => ⟨(h.dn.lt b hb).1, (h.n3 b hb).1⟩)
  refine ⟨hs.set hh 3 _, (hk.own h.po (fun b hb hS => by injection hb with hb; subst hb; exact (h.n3 _ hS).2.1 rfl)).setFar (fun e => by injection e with e; exact h.n1 e) _, h.pa, ho.setFar (fun e => (hn3 _ e).1 rfl) _, ?_, h.jl, h.n1, h.n2, hn3⟩
  have ht : OwI W' (w.heap.size + 1 + 1 + 1) (.slice tA jt tc) (msgs (I.take jt)) := hk.ownI h.td (fun b hb hS => (h.n3 b hS).2.2 hb)
  exact own_of_block ht (fun g hg => Below.heap_setCell W' _ _ g (fun e => (h.n2 g hg).1 e))

theorem FL.pend (h : FL w W ob gc sc id ck I D pb pcap j jd jt pA dA dc tA tc) (hh : w.heap.size + 1 + 1 < ob) {pA' : Option Addr} (hj : j < I.length) (hA : j + 1 < I.length → pA' = some ⟨pb, 0 + (j + 1) * 4, none⟩) {n c : Nat} (hn : n = I.length - (j + 1)) (hc : c = pcap - (j + 1)) : FL w (W.setCell ⟨ob, 2, none⟩ (.slice pA' n c)) ob gc sc id ck I D pb pcap (j + 1) jd jt pA' dA dc tA tc := by
  subst hn; subst hc
  exact ⟨h.st.set hh 2 _, h.po.setFar (fun e => by injection e with e; exact h.n1 e) _, hA, h.dn.setFar (fun e => (h.n3 _ e).1 rfl) _, own_of_block h.td (fun g hg => Below.heap_setCell W _ _ g (fun e => (h.n2 g hg).1 e)), by omega, h.n1, h.n2, h.n3⟩
end
end Go.Proofs.Ytbnmeedmeikepaa
