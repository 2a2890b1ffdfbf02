/-
  Plain mathematics of the store: keys, states, transactions. No program.
-/
import Derived.Test.YteagmkhpfmiaiaaMgA
namespace Go.Proofs.Yteagmkhpfmiaiaa
set_option linter.unusedVariables false

/-! ### ascending keys -/
/-- the first k elements are keys, ascending -/
def AscTo (l : List Int) (k : Nat) : Prop := ∀ i, i < k → (0 ≤ l.getD i 0 ∧ l.getD i 0 ≤ 14) ∧ (0 < i → l.getD (i - 1) 0 < l.getD i 0)

def Asc (l : List Int) : Prop := AscTo l l.length

instance (l : List Int) (k : Nat) : Decidable (AscTo l k) := inferInstanceAs (Decidable (∀ i, i < k → _))

instance (l : List Int) : Decidable (Asc l) := inferInstanceAs (Decidable (AscTo l l.length))

theorem AscTo.zero (l : List Int) : AscTo l 0 := fun i h => absurd h (by omega)

theorem AscTo.succ {l : List Int} {k : Nat} {z : Int} (h : AscTo l k) (hz : l.getD k 0 = z) (h0 : 0 ≤ z) (h1 : z ≤ 14) (h2 : 0 < k → l.getD (k - 1) 0 < z) : AscTo l (k + 1) := fun i hi => by
  by_cases e : i = k
  · subst e; rw [hz]; exact ⟨⟨h0, h1⟩, h2⟩
  · exact h i (by omega)
/-- the last one before k, or -1 -/
def lastK (l : List Int) (k : Nat) : Int := if k = 0 then -1 else l.getD (k - 1) 0

theorem lastK_ge {l : List Int} {k : Nat} (h : AscTo l k) : -1 ≤ lastK l k ∧ lastK l k ≤ 14 := by
  unfold lastK
  by_cases e : k = 0
  · simp [e]
  · rw [if_neg e]; have := (h (k - 1) (by omega)).1; omega

theorem AscTo.last {l : List Int} {k : Nat} {z : Int} (h : AscTo l k) (hz : l.getD k 0 = z) (h0 : lastK l k < z) (h1 : z ≤ 14) : AscTo l (k + 1) := by
  have h2 := lastK_ge h
  refine h.succ hz (by omega) h1 fun hk => ?_
  unfold lastK at h0
  rw [if_neg (by omega)] at h0
  exact h0

theorem lastK_succ {l : List Int} {k : Nat} {z : Int} (hz : l.getD k 0 = z) : lastK l (k + 1) = z := by
  unfold lastK; rw [if_neg (by omega), Nat.add_sub_cancel]; exact hz

theorem Asc.not_of {l : List Int} {k : Nat} {z : Int} (hk : k < l.length) (hz : l.getD k 0 = z) (h : z < 0 ∨ 14 < z) : ¬ Asc l := fun ha => by
  have := (ha k hk).1; rw [hz] at this; omega

theorem Asc.not_last {l : List Int} {k : Nat} {z : Int} (hk : k < l.length) (hz : l.getD k 0 = z) (h : z ≤ lastK l k) : ¬ Asc l := fun ha => by
  unfold lastK at h
  by_cases e : k = 0
  · subst e; have := (ha 0 hk).1; rw [hz] at this; simp at h; omega
  · rw [if_neg e] at h
    have := (ha k hk).2 (by omega)
    rw [hz] at this; omega

theorem Asc.mem {l : List Int} (h : Asc l) {z : Int} (hz : z ∈ l) : 0 ≤ z ∧ z ≤ 14 := by
  obtain ⟨i, hi, rfl⟩ := List.getElem_of_mem hz
  have := (h i hi).1
  simpa [hi] using this

theorem Asc.pair {l : List Int} (h : Asc l) : l.Pairwise (· < ·) := by
  have far : ∀ (d i : Nat), i + d + 1 < l.length → l.getD i 0 < l.getD (i + d + 1) 0 := by
    intro d
    induction d with
    | zero => intro i hi; exact (h (i + 1) hi).2 (by omega)
    | succ d ih => intro i hi; exact Int.lt_trans (ih i (by omega)) ((h (i + d + 1 + 1) (by omega)).2 (by omega))
  rw [List.pairwise_iff_getElem]
  intro i j hi hj hij
  have := far (j - i - 1) i (by omega)
  rw [show i + (j - i - 1) + 1 = j by omega] at this
  simpa [hi, hj] using this

theorem Asc.of {l : List Int} (h : ∀ z ∈ l, 0 ≤ z ∧ z ≤ 14) (hp : l.Pairwise (· < ·)) : Asc l := fun i hi => by
  have e : l.getD i 0 = l[i] := by simp [hi]
  refine ⟨by rw [e]; exact h _ (List.getElem_mem hi), fun h0 => ?_⟩
  have h1 : i - 1 < l.length := by omega
  have e1 : l.getD (i - 1) 0 = l[i - 1] := by simp [h1]
  rw [e, e1]
  exact List.pairwise_iff_getElem.1 hp (i - 1) i h1 hi (by omega)

theorem Asc.nil : Asc [] := fun i h => absurd h (by simp)

theorem Asc.sub {l m : List Int} (h : Asc l) (hs : m.Sublist l) : Asc m := Asc.of (fun z hz => h.mem (hs.subset hz)) (h.pair.sublist hs)
/-- ascending keys are at most fifteen -/
theorem Asc.len {l : List Int} (h : Asc l) : l.length ≤ 15 := by
  have key : ∀ i, i < l.length → (i : Int) ≤ l.getD i 0 := by
    intro i
    induction i with
    | zero => intro hi; exact (h 0 hi).1.1
    | succ i ih => intro hi; have h1 := ih (by omega); have h2 := (h (i + 1) hi).2 (by omega); simp only [Nat.add_sub_cancel] at h2; omega
  by_cases e : l.length ≤ 15
  · exact e
  · have h1 := key 15 (by omega); have h2 := (h 15 (by omega)).1; omega

/-! ### values -/
def amt (v : Int) : Bool := inB v 0 999

theorem amt_true {v : Int} : amt v = true ↔ 0 ≤ v ∧ v ≤ 999 := inB_true
/-- the value of a key in a state -/
def atS (zs : List Int) (k : Int) : Int := zs.getD k.toNat 0

def vst (zs : List Int) : Bool := zs.all amt && decide (zs.length = 15)

theorem vst_len {zs : List Int} (h : vst zs = true) : zs.length = 15 := by simp [vst] at h; exact h.2

theorem vst_true {zs : List Int} : vst zs = true ↔ zs.length = 15 ∧ ∀ i, i < 15 → amt (zs.getD i 0) = true := by
  simp only [vst, Bool.and_eq_true, decide_eq_true_eq, List.all_eq_true]
  constructor
  · rintro ⟨h, e⟩
    refine ⟨e, fun i hi => ?_⟩
    have hi' : i < zs.length := by omega
    have := h _ (List.getElem_mem hi')
    simpa [hi'] using this
  · rintro ⟨e, h⟩
    refine ⟨fun x hx => ?_, e⟩
    obtain ⟨i, hi, rfl⟩ := List.getElem_of_mem hx
    have := h i (by omega)
    simpa [hi] using this

theorem vst_bad {zs : List Int} {k : Nat} {z : Int} (hk : k < zs.length) (hz : zs.getD k 0 = z) (h : amt z = false) : vst zs = false := by
  have e : zs[k] = z := by rw [← hz]; simp [hk]
  have : zs.all amt = false := by rw [List.all_eq_false]; exact ⟨z, by rw [← e]; exact List.getElem_mem hk, by simp [h]⟩
  simp [vst, this]

theorem vst_all {zs : List Int} (h : ∀ i, i < zs.length → amt (zs.getD i 0) = true) : vst zs = decide (zs.length = 15) := by
  have : zs.all amt = true := by
    rw [List.all_eq_true]; intro x hx
    obtain ⟨i, hi, rfl⟩ := List.getElem_of_mem hx
    have := h i hi
    simpa [hi] using this
  simp [vst, this]

theorem vst_nolen {zs : List Int} (h : zs.length ≠ 15) : vst zs = false := by simp [vst, h]

theorem vst_amt {zs : List Int} (h : vst zs = true) {k : Int} : amt (atS zs k) = true := by
  obtain ⟨h1, h2⟩ := vst_true.1 h
  unfold atS
  by_cases e : k.toNat < 15
  · exact h2 _ e
  · rw [List.getD_eq_getElem?_getD, List.getElem?_eq_none (by omega)]; decide

theorem vst_nil : vst [] = false := rfl

/-- the state with the values F -/
def tab (F : Int → Int) : List Int := (grps 15).map F

theorem tab_len (F : Int → Int) : (tab F).length = 15 := by simp [tab, grps]

theorem tab_get (F : Int → Int) {i : Nat} (hi : i < 15) : (tab F).getD i 0 = F i := by
  simp [tab, grps, hi]

theorem tab_at (F : Int → Int) {k : Int} (h0 : 0 ≤ k) (h1 : k ≤ 14) : atS (tab F) k = F k := by
  obtain ⟨i, rfl⟩ := Int.eq_ofNat_of_zero_le h0
  rw [atS, Int.toNat_natCast, tab_get F (by omega)]

theorem ext15 {xs ys : List Int} (hx : xs.length = 15) (hy : ys.length = 15) (h : ∀ i, i < 15 → xs.getD i 0 = ys.getD i 0) : xs = ys := by
  apply List.ext_getElem (by rw [hx, hy])
  intro i h1 h2
  have := h i (by omega)
  simpa [h1, h2] using this

theorem tab_atS {zs : List Int} (h : zs.length = 15) : tab (atS zs) = zs :=
  ext15 (tab_len _) h fun i hi => by rw [tab_get _ hi, atS, Int.toNat_natCast]

theorem tab_congr {F G : Int → Int} (h : ∀ k, 0 ≤ k → k ≤ 14 → F k = G k) : tab F = tab G :=
  ext15 (tab_len _) (tab_len _) fun i hi => by rw [tab_get _ hi, tab_get _ hi]; exact h _ (by omega) (by omega)

theorem vst_tab {F : Int → Int} (h : ∀ k, 0 ≤ k → k ≤ 14 → amt (F k) = true) : vst (tab F) = true :=
  vst_true.2 ⟨tab_len _, fun i hi => by rw [tab_get _ hi]; exact h _ (by omega) (by omega)⟩

theorem tab_set (F : Int → Int) {k : Int} (h0 : 0 ≤ k) (h1 : k ≤ 14) (v : Int) : (tab F).set k.toNat v = tab (fun i => if i = k then v else F i) := by
  obtain ⟨j, rfl⟩ := Int.eq_ofNat_of_zero_le h0
  refine ext15 (by simp [tab_len]) (tab_len _) fun i hi => ?_
  rw [tab_get _ hi, Int.toNat_natCast]
  by_cases e : i = j
  · subst e; rw [if_pos rfl]; simp [tab_len, hi]
  · rw [if_neg (by omega)]
    have := tab_get F hi
    rw [List.getD_eq_getElem?_getD] at this ⊢
    rw [List.getElem?_set_ne (by omega)]
    exact this

theorem tab_snoc (F : Int → Int) (k : Nat) : (grps (k + 1)).map F = (grps k).map F ++ [F k] := by simp [grps_succ]

/-! ### transactions -/
structure Tx where
  rd : List Int
  need : Int
  puts : List (Int × Int)

def keysP (ps : List (Int × Int)) : List Int := ps.map Prod.fst

def AddOk (ps : List (Int × Int)) : Prop := ∀ p ∈ ps, -999 ≤ p.2 ∧ p.2 ≤ 999

instance (ps : List (Int × Int)) : Decidable (AddOk ps) := inferInstanceAs (Decidable (∀ p ∈ ps, _))

structure Vtx (t : Tx) : Prop where
  rd : Asc t.rd
  puts : Asc (keysP t.puts)
  adds : AddOk t.puts
  some_ : 0 < t.rd.length + t.puts.length
  n0 : 0 ≤ t.need
  n1 : t.need ≤ 14985

def vtx (t : Tx) : Bool := decide (Asc t.rd) && (decide (Asc (keysP t.puts)) && (decide (AddOk t.puts) && (decide (0 < t.rd.length + t.puts.length) && inB t.need 0 14985)))

theorem vtx_true {t : Tx} : vtx t = true ↔ Vtx t := by
  simp only [vtx, Bool.and_eq_true, decide_eq_true_eq, inB_true]
  exact ⟨fun ⟨a, b, c, d, e, f⟩ => ⟨a, b, c, d, e, f⟩, fun h => ⟨h.rd, h.puts, h.adds, h.some_, h.n0, h.n1⟩⟩

theorem vtx_false {t : Tx} (h : ¬ Vtx t) : vtx t = false := by
  cases e : vtx t with
  | true => exact absurd (vtx_true.1 e) h
  | false => rfl

theorem keysP_len (ps : List (Int × Int)) : (keysP ps).length = ps.length := by simp [keysP]

theorem keysP_getD {ps : List (Int × Int)} {k : Nat} {x : Int × Int} (h : ps[k]? = some x) : (keysP ps).getD k 0 = x.1 := by simp [keysP, h]

theorem Vtx.plen {t : Tx} (h : Vtx t) : t.puts.length ≤ 15 := by have := h.puts.len; rwa [keysP_len] at this

theorem Vtx.rlen {t : Tx} (h : Vtx t) : t.rd.length ≤ 15 := h.rd.len

/-- what the puts add to a key -/
def dlt (ps : List (Int × Int)) (k : Int) : Int := ((ps.filter fun p => decide (p.1 = k)).map Prod.snd).sum

theorem dlt_nil (k : Int) : dlt [] k = 0 := rfl

theorem dlt_snoc (ps : List (Int × Int)) (x : Int × Int) (k : Int) : dlt (ps ++ [x]) k = dlt ps k + (if x.1 = k then x.2 else 0) := by
  unfold dlt
  rw [List.filter_append, List.map_append, List.sum_append]
  by_cases h : x.1 = k <;> simp [h]

theorem dlt_cons (x : Int × Int) (ps : List (Int × Int)) (k : Int) : dlt (x :: ps) k = (if x.1 = k then x.2 else 0) + dlt ps k := by
  unfold dlt
  by_cases h : x.1 = k <;> simp [h]

theorem dlt_miss {ps : List (Int × Int)} {k : Int} (h : k ∉ keysP ps) : dlt ps k = 0 := by
  induction ps with
  | nil => rfl
  | cons x ps ih =>
    simp only [keysP, List.map_cons, List.mem_cons, not_or] at h
    rw [dlt_cons, if_neg (fun e => h.1 e.symm), ih h.2]; rfl

theorem dlt_hit {ps : List (Int × Int)} (hp : (keysP ps).Pairwise (· < ·)) {x : Int × Int} (hx : x ∈ ps) : dlt ps x.1 = x.2 := by
  induction ps with
  | nil => cases hx
  | cons y ps ih =>
    simp only [keysP, List.map_cons, List.pairwise_cons] at hp
    rw [dlt_cons]
    rcases List.mem_cons.1 hx with rfl | hx
    · rw [if_pos rfl, dlt_miss (fun hm => by have := hp.1 _ hm; omega)]; omega
    · rw [if_neg (fun e => by have := hp.1 x.1 (List.mem_map_of_mem hx); omega), ih hp.2 hx]; omega

theorem take_snocP {ps : List (Int × Int)} {k : Nat} {x : Int × Int} (h : ps[k]? = some x) : ps.take (k + 1) = ps.take k ++ [x] := by
  rw [List.take_add_one, h]; rfl

theorem take_snocI {l : List Int} {k : Nat} {z : Int} (hk : k < l.length) (h : l.getD k 0 = z) : l.take (k + 1) = l.take k ++ [z] := by
  have : l[k]? = some z := by rw [List.getElem?_eq_getElem hk, ← h]; simp [hk]
  rw [List.take_add_one, this]; rfl

theorem keysP_take (ps : List (Int × Int)) (k : Nat) : keysP (ps.take k) = (keysP ps).take k := by simp [keysP, List.map_take]
/-- the key of a later put is not among the earlier ones -/
theorem not_mem_take {ps : List (Int × Int)} (hp : Asc (keysP ps)) {k : Nat} {x : Int × Int} (h : ps[k]? = some x) : x.1 ∉ keysP (ps.take k) := by
  intro hm
  rw [keysP_take] at hm
  obtain ⟨i, hi, e⟩ := List.getElem_of_mem hm
  have hk : k < ps.length := (List.getElem?_eq_some_iff.1 h).1
  have hi' : i < k := by simp at hi; omega
  have h1 := List.pairwise_iff_getElem.1 hp.pair i k (by rw [keysP_len]; omega) (by rw [keysP_len]; exact hk) hi'
  rw [List.getElem_take] at e
  have e2 : (keysP ps)[k]'(by rw [keysP_len]; exact hk) = x.1 := by
    have := keysP_getD h
    rwa [List.getD_eq_getElem?_getD, List.getElem?_eq_getElem (by rw [keysP_len]; exact hk), Option.getD_some] at this
  rw [e, e2] at h1
  omega

def sumF (F : Int → Int) (l : List Int) : Int := (l.map F).sum

theorem sumF_snoc (F : Int → Int) (l : List Int) (z : Int) : sumF F (l ++ [z]) = sumF F l + F z := by simp [sumF]

theorem sumF_nil (F : Int → Int) : sumF F [] = 0 := rfl

theorem sumF_bound {F : Int → Int} (h : ∀ k, amt (F k) = true) (l : List Int) : 0 ≤ sumF F l ∧ sumF F l ≤ 999 * l.length := by
  induction l with
  | nil => simp [sumF]
  | cons x l ih =>
    have := amt_true.1 (h x)
    simp only [sumF, List.map_cons, List.sum_cons, List.length_cons] at ih ⊢
    omega
/-- are all new values in range? -/
def fitP (F : Int → Int) (ps : List (Int × Int)) : Bool := ps.all fun p => amt (F p.1 + p.2)

theorem fitP_bad {F : Int → Int} {ps : List (Int × Int)} {k : Nat} {x : Int × Int} (h : ps[k]? = some x) (hb : amt (F x.1 + x.2) = false) : fitP F ps = false := by
  unfold fitP; rw [List.all_eq_false]; exact ⟨x, List.mem_of_getElem? h, by simp [hb]⟩

theorem fitP_all {F : Int → Int} {ps : List (Int × Int)} (h : ∀ (k : Nat) (x : Int × Int), ps[k]? = some x → amt (F x.1 + x.2) = true) : fitP F ps = true := by
  unfold fitP; rw [List.all_eq_true]; intro x hx
  obtain ⟨k, hk⟩ := List.getElem?_of_mem hx
  exact h k x hk
/-- does it succeed? -/
def okF (F : Int → Int) (t : Tx) : Bool := decide (t.need ≤ sumF F t.rd) && fitP F t.puts

def addF (F : Int → Int) (ps : List (Int × Int)) : Int → Int := fun k => F k + dlt ps k

def nextF (F : Int → Int) (t : Tx) : Int → Int := if okF F t then addF F t.puts else F

theorem nextF_no {F : Int → Int} {t : Tx} (h : okF F t = false) : nextF F t = F := by simp [nextF, h]

theorem nextF_yes {F : Int → Int} {t : Tx} (h : okF F t = true) : nextF F t = addF F t.puts := by simp [nextF, h]

theorem okF_sum {F : Int → Int} {t : Tx} (h : sumF F t.rd < t.need) : okF F t = false := by
  have : decide (t.need ≤ sumF F t.rd) = false := by simp; omega
  simp [okF, this]

theorem okF_fit {F : Int → Int} {t : Tx} (h : fitP F t.puts = false) : okF F t = false := by simp [okF, h]

theorem okF_yes {F : Int → Int} {t : Tx} (h : t.need ≤ sumF F t.rd) (k : fitP F t.puts = true) : okF F t = true := by simp [okF, h, k]

theorem okF_true {F : Int → Int} {t : Tx} : okF F t = true ↔ t.need ≤ sumF F t.rd ∧ fitP F t.puts = true := by simp [okF]

theorem addF_amt {F : Int → Int} (hF : ∀ k, amt (F k) = true) {ps : List (Int × Int)} (hp : Asc (keysP ps)) (h : fitP F ps = true) (k : Int) : amt (addF F ps k) = true := by
  unfold addF
  by_cases hm : k ∈ keysP ps
  · obtain ⟨x, hx, rfl⟩ := List.mem_map.1 hm
    rw [dlt_hit hp.pair hx]
    exact List.all_eq_true.1 h x hx
  · rw [dlt_miss hm, Int.add_zero]; exact hF k

theorem nextF_amt {F : Int → Int} (hF : ∀ k, amt (F k) = true) {t : Tx} (h : Vtx t) (k : Int) : amt (nextF F t k) = true := by
  cases e : okF F t with
  | false => rw [nextF_no e]; exact hF k
  | true => rw [nextF_yes e]; exact addF_amt hF h.puts (okF_true.1 e).2 k
/-- one more put -/
theorem addF_snoc {F : Int → Int} {ps : List (Int × Int)} {x : Int × Int} (h : x.1 ∉ keysP ps) : addF F (ps ++ [x]) = fun k => if k = x.1 then F x.1 + x.2 else addF F ps k := by
  funext k
  unfold addF
  rw [dlt_snoc]
  by_cases e : k = x.1
  · subst e; rw [if_pos rfl, if_pos rfl, dlt_miss h]; omega
  · rw [if_neg (fun h => e h.symm), if_neg e]; omega

/-! ### values that agree at the keys -/
def EqK (F G : Int → Int) : Prop := ∀ k, 0 ≤ k → k ≤ 14 → F k = G k

theorem EqK.sum {F G : Int → Int} (h : EqK F G) {l : List Int} (hl : ∀ z ∈ l, 0 ≤ z ∧ z ≤ 14) : sumF F l = sumF G l := by
  unfold sumF
  rw [List.map_congr_left (fun z hz => h z (hl z hz).1 (hl z hz).2)]

theorem EqK.fit {F G : Int → Int} (h : EqK F G) {ps : List (Int × Int)} (hp : Asc (keysP ps)) : fitP F ps = fitP G ps := by
  rw [Bool.eq_iff_iff]
  unfold fitP
  rw [List.all_eq_true, List.all_eq_true]
  constructor <;> intro hh x hx <;> have h1 := hp.mem (List.mem_map_of_mem (f := Prod.fst) hx) <;> have h2 := hh x hx
  · rw [← h x.1 h1.1 h1.2]; exact h2
  · rw [h x.1 h1.1 h1.2]; exact h2

theorem EqK.ok {F G : Int → Int} (h : EqK F G) {t : Tx} (ht : Vtx t) : okF F t = okF G t := by
  unfold okF
  rw [h.sum (fun z hz => ht.rd.mem hz), h.fit ht.puts]

theorem EqK.next {F G : Int → Int} (h : EqK F G) {t : Tx} (ht : Vtx t) : EqK (nextF F t) (nextF G t) := fun k h0 h1 => by
  unfold nextF
  rw [h.ok ht]
  cases okF G t with
  | true => simp only [if_true, addF]; rw [h k h0 h1]
  | false => exact h k h0 h1

theorem EqK.tab {F G : Int → Int} (h : EqK F G) : tab F = tab G := tab_congr h

theorem eqK_tab (F : Int → Int) : EqK (atS (tab F)) F := fun k h0 h1 => tab_at F h0 h1

/-! ### answers -/
def appS (zs : List Int) (t : Tx) : List Int := if vst zs && vtx t then tab (nextF (atS zs) t) else []

def appB (zs : List Int) (t : Tx) : Bool := vst zs && (vtx t && okF (atS zs) t)

def runF (F : Int → Int) : List Tx → (Int → Int)
  | [] => F
  | t :: l => runF (nextF F t) l

def runB (F : Int → Int) : List Tx → List Bool
  | [] => []
  | t :: l => okF F t :: runB (nextF F t) l

theorem runF_snoc (F : Int → Int) (l : List Tx) (t : Tx) : runF F (l ++ [t]) = nextF (runF F l) t := by
  induction l generalizing F with
  | nil => rfl
  | cons x l ih => exact ih _

theorem runB_snoc (F : Int → Int) (l : List Tx) (t : Tx) : runB F (l ++ [t]) = runB F l ++ [okF (runF F l) t] := by
  induction l generalizing F with
  | nil => rfl
  | cons x l ih => simp only [List.cons_append, runB, ih, runF]

theorem runB_len (F : Int → Int) (l : List Tx) : (runB F l).length = l.length := by
  induction l generalizing F with
  | nil => rfl
  | cons x l ih => simp [runB, ih]

theorem runF_amt {F : Int → Int} (hF : ∀ k, amt (F k) = true) : ∀ {l : List Tx}, (∀ t ∈ l, Vtx t) → ∀ k, amt (runF F l k) = true
  | [], _, k => hF k
  | t :: l, h, k => runF_amt (nextF_amt hF (h t (by simp))) (fun u hu => h u (by simp [hu])) k

def vrun (zs : List Int) (l : List Tx) : Bool := vst zs && (decide (l.length ≤ 10) && l.all vtx)

theorem vrun_true {zs : List Int} {l : List Tx} : vrun zs l = true ↔ vst zs = true ∧ l.length ≤ 10 ∧ ∀ t ∈ l, Vtx t := by
  simp [vrun, vtx_true]

theorem vrun_no1 {zs : List Int} {l : List Tx} (h : vst zs = false) : vrun zs l = false := by simp [vrun, h]

theorem vrun_no2 {zs : List Int} {l : List Tx} (h : 10 < l.length) : vrun zs l = false := by
  have : decide (l.length ≤ 10) = false := by simp; omega
  simp [vrun, this]

theorem vrun_no3 {zs : List Int} {l : List Tx} {k : Nat} {t : Tx} (hk : l[k]? = some t) (h : vtx t = false) : vrun zs l = false := by
  have : l.all vtx = false := by rw [List.all_eq_false]; exact ⟨t, List.mem_of_getElem? hk, by simp [h]⟩
  simp [vrun, this]

def runS (zs : List Int) (l : List Tx) : List Int := if vrun zs l then tab (runF (atS zs) l) else []

def runO (zs : List Int) (l : List Tx) : List Bool := if vrun zs l then runB (atS zs) l else []

def partR (zs : List Int) (g : Int) : List Int := if vst zs && grB g then [atS zs g, atS zs (g + 5), atS zs (g + 10)] else []
/-- parts that fit: five of three values -/
def shapeP (ps : List (List Int)) : Bool := decide (ps.length = 5) && ps.all fun x => decide (x.length = 3)

def valP (ps : List (List Int)) : Int → Int := fun k => (ps.getD (k.toNat % 5) []).getD (k.toNat / 5) 0

def joinR (ps : List (List Int)) : List Int := if shapeP ps && vst (tab (valP ps)) then tab (valP ps) else []
/-- the groups of the keys -/
def tkeys (t : Tx) : List Int := t.rd ++ keysP t.puts

def tgrp (t : Tx) : List Int := (grps 5).filter fun g => (tkeys t).any fun k => decide (k % 5 = g)

def tgrpR (t : Tx) : List Int := if vtx t then tgrp t else []

theorem runS_yes {zs : List Int} {l : List Tx} (h : vrun zs l = true) : runS zs l = tab (runF (atS zs) l) := by simp [runS, h]

theorem runO_yes {zs : List Int} {l : List Tx} (h : vrun zs l = true) : runO zs l = runB (atS zs) l := by simp [runO, h]

theorem runS_no {zs : List Int} {l : List Tx} (h : vrun zs l = false) : runS zs l = [] := by simp [runS, h]

theorem runO_no {zs : List Int} {l : List Tx} (h : vrun zs l = false) : runO zs l = [] := by simp [runO, h]

theorem take_snocT {l : List Tx} {k : Nat} {t : Tx} (h : l[k]? = some t) : l.take (k + 1) = l.take k ++ [t] := by
  rw [List.take_add_one, h]; rfl
/-- the keys of a group -/
theorem keys_of {g : Int} (h0 : 0 ≤ g) (h1 : g ≤ 4) : ((grps 15).filter fun k => decide (k % 5 = g)) = [g, g + 5, g + 10] := by
  have : g = 0 ∨ g = 1 ∨ g = 2 ∨ g = 3 ∨ g = 4 := by omega
  rcases this with rfl | rfl | rfl | rfl | rfl <;> decide

theorem partR_yes {zs : List Int} {g : Int} (h : vst zs = true) (hg : grB g = true) : partR zs g = ((grps 15).filter fun k => decide (k % 5 = g)).map (atS zs) := by
  obtain ⟨h0, h1⟩ := grB_true.1 hg
  rw [keys_of h0 h1]
  simp [partR, h, hg]

theorem partR_no1 {zs : List Int} {g : Int} (h : vst zs = false) : partR zs g = [] := by simp [partR, h]

theorem partR_no2 {zs : List Int} {g : Int} (h : grB g = false) : partR zs g = [] := by simp [partR, h]

theorem joinR_len {ps : List (List Int)} (h : ps.length ≠ 5) : joinR ps = [] := by simp [joinR, shapeP, h]

theorem joinR_three {ps : List (List Int)} {g : Nat} {x : List Int} (hg : g < ps.length) (hx : ps.getD g [] = x) (h : x.length ≠ 3) : joinR ps = [] := by
  have hx' : x ∈ ps := by rw [← hx, List.getD_eq_getElem?_getD, List.getElem?_eq_getElem hg]; exact List.getElem_mem hg
  have : (ps.all fun x => decide (x.length = 3)) = false := by rw [List.all_eq_false]; exact ⟨x, hx', by simp [h]⟩
  simp [joinR, shapeP, this]

theorem shapeP_of {ps : List (List Int)} (h : ps.length = 5) (k : ∀ g, g < 5 → (ps.getD g []).length = 3) : shapeP ps = true := by
  unfold shapeP
  rw [Bool.and_eq_true, decide_eq_true_eq, List.all_eq_true]
  refine ⟨h, fun x hx => ?_⟩
  obtain ⟨i, hi, rfl⟩ := List.getElem_of_mem hx
  have := k i (by omega)
  rw [List.getD_eq_getElem?_getD, List.getElem?_eq_getElem hi] at this
  simpa using this
/-- what has been laid when g parts and i values of the next are over -/
def half (ps : List (List Int)) (g i : Nat) : Int → Int := fun k => if k.toNat % 5 < g ∨ (k.toNat % 5 = g ∧ k.toNat / 5 < i) then valP ps k else 0

theorem half_zero (ps : List (List Int)) : tab (half ps 0 0) = List.replicate 15 0 := by
  refine ext15 (tab_len _) (by simp) fun i hi => ?_
  rw [tab_get _ hi]
  unfold half
  rw [if_neg (by omega), List.getD_eq_getElem?_getD, List.getElem?_replicate, if_pos hi]
  rfl

theorem half_next (ps : List (List Int)) (g : Nat) : tab (half ps g 3) = tab (half ps (g + 1) 0) :=
  tab_congr fun k h0 h1 => by
    unfold half
    have : (k.toNat % 5 < g ∨ (k.toNat % 5 = g ∧ k.toNat / 5 < 3)) ↔ (k.toNat % 5 < g + 1 ∨ (k.toNat % 5 = g + 1 ∧ k.toNat / 5 < 0)) := by omega
    simp only [this]

theorem half_set {ps : List (List Int)} {g i : Nat} {x : List Int} {y : Int} (hg : g < 5) (hi : i < 3) (hx : ps.getD g [] = x) (hy : x.getD i 0 = y) : (tab (half ps g i)).set (i * 5 + g) y = tab (half ps g (i + 1)) := by
  have h1 := tab_set (half ps g i) (k := ((i * 5 + g : Nat) : Int)) (by omega) (by omega) y
  rw [Int.toNat_natCast] at h1
  rw [h1]
  refine tab_congr fun k h0 h14 => ?_
  by_cases e : k = ((i * 5 + g : Nat) : Int)
  · subst e
    rw [if_pos rfl]
    unfold half valP
    have e1 : ((i * 5 + g : Nat) : Int).toNat = i * 5 + g := by omega
    have e2 : (i * 5 + g) % 5 = g := by omega
    have e3 : (i * 5 + g) / 5 = i := by omega
    rw [e1, e2, e3, if_pos (by omega), hx, hy]
  · rw [if_neg e]
    unfold half
    have : (k.toNat % 5 < g ∨ (k.toNat % 5 = g ∧ k.toNat / 5 < i)) ↔ (k.toNat % 5 < g ∨ (k.toNat % 5 = g ∧ k.toNat / 5 < i + 1)) := by omega
    simp only [this]

theorem half_put {ps : List (List Int)} {g i : Nat} {x : List Int} {y : Int} (hg : g < 5) (hi : i < 3) (hx : ps.getD g [] = x) (hy : x.getD i 0 = y) : ∀ k : Int, 0 ≤ k → k ≤ 14 → (if k = (i : Int) * 5 + g then y else half ps g i k) = half ps g (i + 1) k := by
  intro k h0 h14
  have h := half_set hg hi hx hy
  have h1 := tab_set (half ps g i) (k := ((i * 5 + g : Nat) : Int)) (by omega) (by omega) y
  rw [Int.toNat_natCast, h] at h1
  have h2 := congrArg (fun l => atS l k) h1
  simp only [tab_at _ h0 h14] at h2
  rw [h2]
  have : k = (i : Int) * 5 + g ↔ k = ((i * 5 + g : Nat) : Int) := by omega
  simp only [this]

theorem half_nextF (ps : List (List Int)) (g : Nat) : ∀ k : Int, 0 ≤ k → k ≤ 14 → half ps g 3 k = half ps (g + 1) 0 k := by
  intro k h0 h14
  have h2 := congrArg (fun l => atS l k) (half_next ps g)
  simpa only [tab_at _ h0 h14] using h2

theorem half_fullF (ps : List (List Int)) : ∀ k : Int, 0 ≤ k → k ≤ 14 → half ps 5 0 k = valP ps k := by
  intro k h0 h1; unfold half; rw [if_pos (by omega)]

theorem half_full (ps : List (List Int)) : tab (half ps 5 0) = tab (valP ps) :=
  tab_congr fun k h0 h1 => by unfold half; rw [if_pos (by omega)]

theorem joinR_fin {ps : List (List Int)} (h : shapeP ps = true) : joinR ps = if vst (tab (valP ps)) then tab (valP ps) else [] := by simp [joinR, h]
/-- the groups of the first keys -/
def grpsOf (l : List Int) : List Int := (grps 5).filter fun g => l.any fun k => decide (k % 5 = g)

theorem grpsOf_nil : grpsOf [] = [] := rfl

theorem grpsOf_snoc {l : List Int} {z : Int} : unionL (grpsOf l) [z % 5] = grpsOf (l ++ [z]) := by
  unfold unionL grpsOf
  refine List.filter_congr fun g hg => ?_
  have hh : hasB [z % 5] g = decide (z % 5 = g) := by
    rw [Bool.eq_iff_iff, hasB_iff, List.mem_singleton, decide_eq_true_eq]; exact eq_comm
  rw [hh, List.any_append, List.any_cons, List.any_nil, Bool.or_false]
  congr 1
  rw [Bool.eq_iff_iff, hasB_iff, List.mem_filter]
  exact ⟨fun h => h.2, fun h => ⟨hg, h⟩⟩

theorem tgrp_eq (t : Tx) : tgrp t = grpsOf (tkeys t) := rfl

theorem tgrpR_yes {t : Tx} (h : vtx t = true) : tgrpR t = grpsOf (t.rd ++ keysP t.puts) := by simp [tgrpR, h]; rfl

theorem tgrpR_no {t : Tx} (h : vtx t = false) : tgrpR t = [] := by simp [tgrpR, h]

theorem grpsOf_valid {l : List Int} (h : l ≠ []) (hr : ∀ z ∈ l, 0 ≤ z ∧ z ≤ 14) : ∀ g, g ∈ grpsOf l ↔ ∃ z ∈ l, z % 5 = g := fun g => by
  unfold grpsOf
  rw [List.mem_filter, grps_mem, List.any_eq_true]
  constructor
  · rintro ⟨_, z, hz, e⟩; exact ⟨z, hz, by simpa using e⟩
  · rintro ⟨z, hz, e⟩; have := hr z hz; exact ⟨by omega, z, hz, by simpa using e⟩
end Go.Proofs.Yteagmkhpfmiaiaa
