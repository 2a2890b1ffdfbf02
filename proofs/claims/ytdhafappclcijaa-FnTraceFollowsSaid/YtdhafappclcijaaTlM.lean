/-
  What the laws of traces share: the contracts of the program's and the model's functions under names. No condition.
-/
import Derived.Test.YtdhafappclcijaaTrL
import Derived.Test.YtdhafappclcijaaTrI
namespace Go.Proofs.Ytdhafappclcijaa
open Go.RowKit
set_option linter.unusedVariables false

theorem sameB_selfT (zs : List Int) : sameB zs zs = true := by simp [sameB]

theorem OwI.capT {w : World} {lo n c : Nat} {A : Option Addr} {zs : List Int} (h : OwI w lo (.slice A n c) zs) : zs.length ≤ c ∧ c ≤ 9223372036854775807 := by
  obtain ⟨A', c', e, _, h1, h2⟩ := h.formT
  injection e with e1 e2 e3
  subst e3
  exact ⟨h1, h2⟩

theorem OwLL.atT {w : World} {lo : Nat} {v : Value} {zss : List (List Int)} (h : OwLL w lo v zss) : ∃ A n c, v = .slice A n c ∧ zss.length = n ∧ n ≤ c ∧ c ≤ 9223372036854775807 := by
  obtain ⟨A, c, e, _, h1, h2⟩ := h.formT
  exact ⟨A, _, c, e, rfl, h1, h2⟩

theorem OwLL.rdT {w : World} {lo n c : Nat} {A : Option Addr} {zss : List (List Int)} (h : OwLL w lo (.slice A n c) zss) : RdT w w.heap.size A n zss := by
  obtain ⟨A', c', e, hr, _⟩ := h.formT
  injection e with e1 e2 e3
  rw [e1, e2]
  exact hr

theorem Qt.cellT {w w' : World} {p : Addr} {v : Option Value} (h : Qt w w') (hc : w.cell? p = v) : w'.cell? p = v := by
  obtain ⟨q, rfl⟩ := h
  exact hc

theorem before_asT {B n c : Nat} {A : Option Addr} {zs : List Int} {a b : Int} {r : Bool} (h : befB zs a b = r) (w : World) (hr : RdI w B A n zs) (hn : n < 1099511627776) (hnc : n ≤ c) (hc : c ≤ 9223372036854775807) :
    Calls Try.prog 25 #[.slice A n c, .int .i64 a, .int .i64 b] w fun e w' => e = .returned (.bool r) ∧ w = w' := by
  subst h; exact before_any a b w hr hn hnc hc
/-- what TraceOrder hands back, under names -/
def OrdAs (K : Bool) (O : List Int) (m : Nat) (w : World) (e : Ending) (w' : World) : Prop :=
  ∃ (A : Option Addr) (c : Nat), e = .returned (.tuple #[.slice A m c, .bool K]) ∧ OwI w' w.heap.size (.slice A m c) O ∧ Below w.heap.size w w' ∧ m ≤ c ∧ c ≤ 9223372036854775807

theorem OrdAs.of {K : Bool} {O : List Int} {m : Nat} {zss : List (List Int)} {w : World} {e : Ending} {w' : World} (hK : okT zss = K) (hO : toR zss = O) (hm : O.length = m) (h : OrdPost zss w e w') : OrdAs K O m w e w' := by
  subst hK; subst hO; subst hm
  obtain ⟨v, rfl, ho, hb⟩ := h
  obtain ⟨A, c, rfl, _, h1, h2⟩ := ho.formT
  exact ⟨A, c, rfl, ho, hb, h1, h2⟩
/-- what TraceCycle hands back, under names -/
def CycAs (R : List Int) (m : Nat) (w : World) (e : Ending) (w' : World) : Prop :=
  ∃ (A : Option Addr) (c : Nat), e = .returned (.slice A m c) ∧ OwI w' w.heap.size (.slice A m c) R ∧ Below w.heap.size w w' ∧ m ≤ c ∧ c ≤ 9223372036854775807

theorem CycAs.of {R : List Int} {m : Nat} {zss : List (List Int)} {w : World} {e : Ending} {w' : World} (hR : tcR zss = R) (hm : R.length = m) (h : NewI w (tcR zss) e w') : CycAs R m w e w' := by
  subst hR; subst hm
  obtain ⟨v, rfl, ho, hb⟩ := h
  obtain ⟨A, c, rfl, _, h1, h2⟩ := ho.formT
  exact ⟨A, c, rfl, ho, hb, h1, h2⟩
section
variable {n c m : Nat} {A : Option Addr} {zss : List (List Int)} {K : Bool} {O R : List Int}

theorem TraceOrder_isI (hK : okT zss = K) (hO : toR zss = O) (hm : O.length = m) (w : World) (hr : RdT w w.heap.size A n zss) (hn : n < 1099511627776) (hs : ShT zss) :
    Calls Try.prog 16 #[.slice A n c] w (OrdAs K O m w) := (TraceOrder_impl w hr hn hs).mono fun _ _ h => OrdAs.of hK hO hm h

theorem TraceOrder_isS (hK : okT zss = K) (hO : toR zss = O) (hm : O.length = m) (w : World) (hr : RdT w w.heap.size A n zss) (hn : n < 1099511627776) (hs : ShT zss) :
    Calls Try.prog 17 #[.slice A n c] w (OrdAs K O m w) := (TraceOrder_spec w hr hn hs).mono fun _ _ h => OrdAs.of hK hO hm h

theorem TraceCycle_isI (hR : tcR zss = R) (hm : R.length = m) (w : World) (hr : RdT w w.heap.size A n zss) (hn : n < 1099511627776) (hs : ShT zss) :
    Calls Try.prog 22 #[.slice A n c] w (CycAs R m w) := (TraceCycle_impl w hr hn hs).mono fun _ _ h => CycAs.of hR hm h

theorem TraceCycle_isS (hR : tcR zss = R) (hm : R.length = m) (w : World) (hr : RdT w w.heap.size A n zss) (hn : n < 1099511627776) (hs : ShT zss) :
    Calls Try.prog 24 #[.slice A n c] w (CycAs R m w) := (TraceCycle_spec w hr hn hs).mono fun _ _ h => CycAs.of hR hm h

theorem TraceFollows_isI {B B' d : Nat} {A' : Option Addr} {zs os : List Int} {r : Bool} (h : foR zs os = r) (w : World) (hr : RdI w B A n zs) (hk : RdI w B' A' m os) (hn : n < 1099511627776) (hm : m < 1099511627776) (hnc : n ≤ c) (hmd : m ≤ d) (hc : c ≤ 9223372036854775807) (hd : d ≤ 9223372036854775807) :
    Calls Try.prog 19 #[.slice A n c, .slice A' m d] w fun e w' => e = .returned (.bool r) ∧ Below w.heap.size w w' := by
  subst h; exact TraceFollows_impl w hr hk hn hm hnc hmd hc hd

theorem TraceFollows_isS {B B' d : Nat} {A' : Option Addr} {zs os : List Int} {r : Bool} (h : foR zs os = r) (w : World) (hr : RdI w B A n zs) (hk : RdI w B' A' m os) (hn : n < 1099511627776) (hm : m < 1099511627776) (hnc : n ≤ c) (hmd : m ≤ d) (hc : c ≤ 9223372036854775807) (hd : d ≤ 9223372036854775807) :
    Calls Try.prog 29 #[.slice A n c, .slice A' m d] w fun e w' => e = .returned (.bool r) ∧ Qt w w' := by
  subst h; exact TraceFollows_spec w hr hk hn hm hnc hmd hc hd

theorem TracesValid_isI {B : Nat} {r : Bool} (h : trsB zss = r) (w : World) (hr : RdT w B A n zss) (hn : n < 1099511627776) (hs : ShT zss) :
    Calls Try.prog 27 #[.slice A n c] w fun e w' => e = .returned (.bool r) ∧ Below w.heap.size w w' := by
  subst h; exact TracesValid_impl w hr hn hs

theorem sameInts_self {B B' d : Nat} {A' : Option Addr} {zs : List Int} (w : World) (hx : RdI w B A n zs) (hy : RdI w B' A' n zs) (hn : n < 1099511627776) :
    Calls Try.prog 18 #[.slice A n c, .slice A' n d] w fun e w' => e = .returned (.bool true) ∧ Qt w w' := by
  have := sameInts_any (c := c) (d := d) w hx hy hn hn
  rwa [sameB_selfT] at this
end
end Go.Proofs.Ytdhafappclcijaa
