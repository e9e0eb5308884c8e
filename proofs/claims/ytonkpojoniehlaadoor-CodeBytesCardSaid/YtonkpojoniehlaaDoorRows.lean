/-
  NARROWER THAN 'FOR EVERY INPUT', by the rows' own cells (each row's printed sentence says how): AsmBack: laid · CodeEncodes: laid · CodeBack: laid · CodeApart: laid · CodeBytes: laid.
  DERIVED. THE GIVEN ROWS OF THIS SEAT. 5 by the template 'for every input the law returns true; each argument reads behind the call as it read before'; 0 by the template 'total and deterministic' (their statements: YtonkpojoniehlaaDoorTotals.lean).
  GIVEN WITH THE SEED: the statements are not yours to turn. If you find one false, say at which input.
  Laid BY PROGRAM, IN A SANDBOX (cutbox-rows.mjs): the forced cells as the released guide's own fill.sh prints them over the translation 84462a7bcce16ad1… (all of the seat's roots in one cut). By AI agents, Wed Nov 11 2026. No macro, syntax, notation, axiom, sorry.
-/
import Derived.Test.YtonkpojoniehlaaDoorChecked
import GoSem.Claim
import GoSem.ClaimJoined
import GoSem.ClaimMapViews
import Derived.JoinedTies
import Derived.KernelRfl
namespace Go.Proofs.YtonkpojoniehlaaDoor
/- THE CELL 'sum', in the pinned program and in every row, IS THE sha256 OF THE DUMP (.gsa) THAT YtonkpojoniehlaaDoorProg.lean LOADS. Nothing in Lean hashes anything: it is a label: what it is worth is what the hold of that sum in a sandbox is worth. -/
noncomputable def Tryd.pinned : Pinned := { name := "ytonkpojoniehlaadoor", sum := "84462a7bcce16ad1e8a8f0ce2f3c21c6d8a8df023f0655efd317a3edcfa6a5d8", checked := Tryd.checked }
namespace Rows
def none {H : Type} : Left H := { results := [], args := [] }

/- WHAT THE LISTED PACKAGE-LEVEL VARIABLES READ AS WHEN THE CALL BEGINS. Each datum BY PROGRAM (the guide's laid-datum.mjs) off the statement by which the dump's own 'gosem.cut.vars' lays the variable. In a bare row this is a premise. The card (YtonkpojoniehlaaDoorCards.lean) ties it to the program's text. -/
def laid_math_bits_deBruijn32tab {H : Type} : DataW H := .agg [.lit (.int .u8 0), .lit (.int .u8 1), .lit (.int .u8 28), .lit (.int .u8 2), .lit (.int .u8 29), .lit (.int .u8 14), .lit (.int .u8 24), .lit (.int .u8 3), .lit (.int .u8 30), .lit (.int .u8 22), .lit (.int .u8 20), .lit (.int .u8 15), .lit (.int .u8 25), .lit (.int .u8 17), .lit (.int .u8 4), .lit (.int .u8 8), .lit (.int .u8 31), .lit (.int .u8 27), .lit (.int .u8 13), .lit (.int .u8 23), .lit (.int .u8 21), .lit (.int .u8 19), .lit (.int .u8 16), .lit (.int .u8 7), .lit (.int .u8 26), .lit (.int .u8 12), .lit (.int .u8 18), .lit (.int .u8 6), .lit (.int .u8 11), .lit (.int .u8 5), .lit (.int .u8 10), .lit (.int .u8 9)]
def laid_math_bits_deBruijn64tab {H : Type} : DataW H := .agg [.lit (.int .u8 0), .lit (.int .u8 1), .lit (.int .u8 56), .lit (.int .u8 2), .lit (.int .u8 57), .lit (.int .u8 49), .lit (.int .u8 28), .lit (.int .u8 3), .lit (.int .u8 61), .lit (.int .u8 58), .lit (.int .u8 42), .lit (.int .u8 50), .lit (.int .u8 38), .lit (.int .u8 29), .lit (.int .u8 17), .lit (.int .u8 4), .lit (.int .u8 62), .lit (.int .u8 47), .lit (.int .u8 59), .lit (.int .u8 36), .lit (.int .u8 45), .lit (.int .u8 43), .lit (.int .u8 51), .lit (.int .u8 22), .lit (.int .u8 53), .lit (.int .u8 39), .lit (.int .u8 33), .lit (.int .u8 30), .lit (.int .u8 24), .lit (.int .u8 18), .lit (.int .u8 12), .lit (.int .u8 5), .lit (.int .u8 63), .lit (.int .u8 55), .lit (.int .u8 48), .lit (.int .u8 27), .lit (.int .u8 60), .lit (.int .u8 41), .lit (.int .u8 37), .lit (.int .u8 16), .lit (.int .u8 46), .lit (.int .u8 35), .lit (.int .u8 44), .lit (.int .u8 21), .lit (.int .u8 52), .lit (.int .u8 32), .lit (.int .u8 23), .lit (.int .u8 11), .lit (.int .u8 54), .lit (.int .u8 26), .lit (.int .u8 40), .lit (.int .u8 15), .lit (.int .u8 34), .lit (.int .u8 20), .lit (.int .u8 31), .lit (.int .u8 10), .lit (.int .u8 25), .lit (.int .u8 14), .lit (.int .u8 19), .lit (.int .u8 9), .lit (.int .u8 13), .lit (.int .u8 8), .lit (.int .u8 7), .lit (.int .u8 6)]
def laid_internal_strconv_uint64pow10 {H : Type} : DataW H := .agg [.lit (.int .u64 1), .lit (.int .u64 10), .lit (.int .u64 100), .lit (.int .u64 1000), .lit (.int .u64 10000), .lit (.int .u64 100000), .lit (.int .u64 1000000), .lit (.int .u64 10000000), .lit (.int .u64 100000000), .lit (.int .u64 1000000000), .lit (.int .u64 10000000000), .lit (.int .u64 100000000000), .lit (.int .u64 1000000000000), .lit (.int .u64 10000000000000), .lit (.int .u64 100000000000000), .lit (.int .u64 1000000000000000), .lit (.int .u64 10000000000000000), .lit (.int .u64 100000000000000000), .lit (.int .u64 1000000000000000000), .lit (.int .u64 10000000000000000000)]
def laid_strconv_ErrRange {H : Type} : DataW H := .iface "*errors.errorString" (.ptr (.agg [.lit (.string [118, 97, 108, 117, 101, 32, 111, 117, 116, 32, 111, 102, 32, 114, 97, 110, 103, 101])]))
def laid_strconv_ErrSyntax {H : Type} : DataW H := .iface "*errors.errorString" (.ptr (.agg [.lit (.string [105, 110, 118, 97, 108, 105, 100, 32, 115, 121, 110, 116, 97, 120])]))
def laid_brazier_asm_mnemonics {H : Type} : DataW H := .agg [.lit (.string []), .lit (.string [108, 117, 105]), .lit (.string [97, 100, 100, 105]), .lit (.string [115, 108, 116, 105]), .lit (.string [115, 108, 116, 105, 117]), .lit (.string [120, 111, 114, 105]), .lit (.string [111, 114, 105]), .lit (.string [97, 110, 100, 105]), .lit (.string [115, 108, 108, 105]), .lit (.string [115, 114, 108, 105]), .lit (.string [115, 114, 97, 105]), .lit (.string [97, 100, 100]), .lit (.string [115, 117, 98]), .lit (.string [115, 108, 108]), .lit (.string [115, 108, 116]), .lit (.string [115, 108, 116, 117]), .lit (.string [120, 111, 114]), .lit (.string [115, 114, 108]), .lit (.string [115, 114, 97]), .lit (.string [111, 114]), .lit (.string [97, 110, 100]), .lit (.string [109, 117, 108]), .lit (.string [100, 105, 118]), .lit (.string [114, 101, 109]), .lit (.string [108, 119]), .lit (.string [115, 119]), .lit (.string [98, 101, 113]), .lit (.string [98, 110, 101]), .lit (.string [106, 97, 108]), .lit (.string [106, 97, 108, 114]), .lit (.string [101, 99, 97, 108, 108])]
def laid_brazier_code_rows {H : Type} : DataW H := .agg [.agg [.lit (.int .i64 0), .agg [.lit (.int .u32 0), .lit (.int .u32 0), .lit (.int .u32 0)]], .agg [.lit (.int .i64 7), .agg [.lit (.int .u32 55), .lit (.int .u32 0), .lit (.int .u32 0)]], .agg [.lit (.int .i64 3), .agg [.lit (.int .u32 19), .lit (.int .u32 0), .lit (.int .u32 0)]], .agg [.lit (.int .i64 3), .agg [.lit (.int .u32 19), .lit (.int .u32 2), .lit (.int .u32 0)]], .agg [.lit (.int .i64 3), .agg [.lit (.int .u32 19), .lit (.int .u32 3), .lit (.int .u32 0)]], .agg [.lit (.int .i64 3), .agg [.lit (.int .u32 19), .lit (.int .u32 4), .lit (.int .u32 0)]], .agg [.lit (.int .i64 3), .agg [.lit (.int .u32 19), .lit (.int .u32 6), .lit (.int .u32 0)]], .agg [.lit (.int .i64 3), .agg [.lit (.int .u32 19), .lit (.int .u32 7), .lit (.int .u32 0)]], .agg [.lit (.int .i64 4), .agg [.lit (.int .u32 19), .lit (.int .u32 1), .lit (.int .u32 0)]], .agg [.lit (.int .i64 4), .agg [.lit (.int .u32 19), .lit (.int .u32 5), .lit (.int .u32 0)]], .agg [.lit (.int .i64 4), .agg [.lit (.int .u32 19), .lit (.int .u32 5), .lit (.int .u32 32)]], .agg [.lit (.int .i64 2), .agg [.lit (.int .u32 51), .lit (.int .u32 0), .lit (.int .u32 0)]], .agg [.lit (.int .i64 2), .agg [.lit (.int .u32 51), .lit (.int .u32 0), .lit (.int .u32 32)]], .agg [.lit (.int .i64 2), .agg [.lit (.int .u32 51), .lit (.int .u32 1), .lit (.int .u32 0)]], .agg [.lit (.int .i64 2), .agg [.lit (.int .u32 51), .lit (.int .u32 2), .lit (.int .u32 0)]], .agg [.lit (.int .i64 2), .agg [.lit (.int .u32 51), .lit (.int .u32 3), .lit (.int .u32 0)]], .agg [.lit (.int .i64 2), .agg [.lit (.int .u32 51), .lit (.int .u32 4), .lit (.int .u32 0)]], .agg [.lit (.int .i64 2), .agg [.lit (.int .u32 51), .lit (.int .u32 5), .lit (.int .u32 0)]], .agg [.lit (.int .i64 2), .agg [.lit (.int .u32 51), .lit (.int .u32 5), .lit (.int .u32 32)]], .agg [.lit (.int .i64 2), .agg [.lit (.int .u32 51), .lit (.int .u32 6), .lit (.int .u32 0)]], .agg [.lit (.int .i64 2), .agg [.lit (.int .u32 51), .lit (.int .u32 7), .lit (.int .u32 0)]], .agg [.lit (.int .i64 2), .agg [.lit (.int .u32 51), .lit (.int .u32 0), .lit (.int .u32 1)]], .agg [.lit (.int .i64 2), .agg [.lit (.int .u32 51), .lit (.int .u32 4), .lit (.int .u32 1)]], .agg [.lit (.int .i64 2), .agg [.lit (.int .u32 51), .lit (.int .u32 6), .lit (.int .u32 1)]], .agg [.lit (.int .i64 3), .agg [.lit (.int .u32 3), .lit (.int .u32 2), .lit (.int .u32 0)]], .agg [.lit (.int .i64 5), .agg [.lit (.int .u32 35), .lit (.int .u32 2), .lit (.int .u32 0)]], .agg [.lit (.int .i64 6), .agg [.lit (.int .u32 99), .lit (.int .u32 0), .lit (.int .u32 0)]], .agg [.lit (.int .i64 6), .agg [.lit (.int .u32 99), .lit (.int .u32 1), .lit (.int .u32 0)]], .agg [.lit (.int .i64 8), .agg [.lit (.int .u32 111), .lit (.int .u32 0), .lit (.int .u32 0)]], .agg [.lit (.int .i64 3), .agg [.lit (.int .u32 103), .lit (.int .u32 0), .lit (.int .u32 0)]], .agg [.lit (.int .i64 1), .agg [.lit (.int .u32 115), .lit (.int .u32 0), .lit (.int .u32 0)]]]

/-- 'brazierlaw17.AsmBack': WHATEVER THE INPUT: true; the input reads as it did. -/
def asmBackSpec : ChangeSpec := { name := "asmBack", fn := fun _ => fun
  | [d1, d2] => { results := [.lit (.bool true)], args := [d1, d2] }
  | _ => none }
def asmBackRow : OpenClaim := { program := "ytonkpojoniehlaadoor", sum := "84462a7bcce16ad1e8a8f0ce2f3c21c6d8a8df023f0655efd317a3edcfa6a5d8", func := "brazier/brazierlaw17.AsmBack", spec := "asmBack", inPlace := ["internal/abi.NoEscape", "internal/bytealg.MakeNoZero", "internal/bytealg.IndexByteString", "internal/bytealg.IndexString"], unfollowed := true, recurses := true, named := ["internal/strconv.uint64pow10", "math/bits.deBruijn32tab", "math/bits.deBruijn64tab", "brazier/asm.mnemonics", "internal/bytealg.MaxLen", "strconv.ErrSyntax", "strconv.ErrRange"], apart := false, laid := [("math/bits.deBruijn32tab", laid_math_bits_deBruijn32tab), ("math/bits.deBruijn64tab", laid_math_bits_deBruijn64tab), ("internal/strconv.uint64pow10", laid_internal_strconv_uint64pow10), ("strconv.ErrRange", laid_strconv_ErrRange), ("strconv.ErrSyntax", laid_strconv_ErrSyntax), ("brazier/asm.mnemonics", laid_brazier_asm_mnemonics)] }
def AsmBackSaid : Prop := asmBackRow.holds Tryd.pinned (OpenSpec.ofChange asmBackSpec)

/-- ITS FALSE NEIGHBOUR: 'it returns false'. Refute it at one input. -/
def asmBackWrong : ChangeSpec := { name := "asmBack", fn := fun _ => fun
  | [d1, d2] => { results := [.lit (.bool false)], args := [d1, d2] }
  | _ => none }
def AsmBackWrongFalsely : Prop := asmBackRow.holds Tryd.pinned (OpenSpec.ofChange asmBackWrong)

/-- 'brazierlaw19.CodeEncodes': WHATEVER THE INPUT: true; the input reads as it did. -/
def codeEncodesSpec : ChangeSpec := { name := "codeEncodes", fn := fun _ => fun
  | [d] => { results := [.lit (.bool true)], args := [d] }
  | _ => none }
def codeEncodesRow : OpenClaim := { program := "ytonkpojoniehlaadoor", sum := "84462a7bcce16ad1e8a8f0ce2f3c21c6d8a8df023f0655efd317a3edcfa6a5d8", func := "brazier/brazierlaw19.CodeEncodes", spec := "codeEncodes", unfollowed := true, recurses := true, named := ["brazier/code.rows"], apart := false, laid := [("brazier/code.rows", laid_brazier_code_rows)] }
def CodeEncodesSaid : Prop := codeEncodesRow.holds Tryd.pinned (OpenSpec.ofChange codeEncodesSpec)

/-- ITS FALSE NEIGHBOUR: 'it returns false'. Refute it at one input. -/
def codeEncodesWrong : ChangeSpec := { name := "codeEncodes", fn := fun _ => fun
  | [d] => { results := [.lit (.bool false)], args := [d] }
  | _ => none }
def CodeEncodesWrongFalsely : Prop := codeEncodesRow.holds Tryd.pinned (OpenSpec.ofChange codeEncodesWrong)

/-- 'brazierlaw19.CodeBack': WHATEVER THE INPUT: true; the input reads as it did. -/
def codeBackSpec : ChangeSpec := { name := "codeBack", fn := fun _ => fun
  | [d1, d2] => { results := [.lit (.bool true)], args := [d1, d2] }
  | _ => none }
def codeBackRow : OpenClaim := { program := "ytonkpojoniehlaadoor", sum := "84462a7bcce16ad1e8a8f0ce2f3c21c6d8a8df023f0655efd317a3edcfa6a5d8", func := "brazier/brazierlaw19.CodeBack", spec := "codeBack", unfollowed := true, recurses := true, named := ["brazier/code.rows"], apart := false, laid := [("brazier/code.rows", laid_brazier_code_rows)] }
def CodeBackSaid : Prop := codeBackRow.holds Tryd.pinned (OpenSpec.ofChange codeBackSpec)

/-- ITS FALSE NEIGHBOUR: 'it returns false'. Refute it at one input. -/
def codeBackWrong : ChangeSpec := { name := "codeBack", fn := fun _ => fun
  | [d1, d2] => { results := [.lit (.bool false)], args := [d1, d2] }
  | _ => none }
def CodeBackWrongFalsely : Prop := codeBackRow.holds Tryd.pinned (OpenSpec.ofChange codeBackWrong)

/-- 'brazierlaw19.CodeApart': WHATEVER THE INPUT: true; the input reads as it did. -/
def codeApartSpec : ChangeSpec := { name := "codeApart", fn := fun _ => fun
  | [d1, d2] => { results := [.lit (.bool true)], args := [d1, d2] }
  | _ => none }
def codeApartRow : OpenClaim := { program := "ytonkpojoniehlaadoor", sum := "84462a7bcce16ad1e8a8f0ce2f3c21c6d8a8df023f0655efd317a3edcfa6a5d8", func := "brazier/brazierlaw19.CodeApart", spec := "codeApart", unfollowed := true, recurses := true, named := ["brazier/code.rows"], apart := false, laid := [("brazier/code.rows", laid_brazier_code_rows)] }
def CodeApartSaid : Prop := codeApartRow.holds Tryd.pinned (OpenSpec.ofChange codeApartSpec)

/-- ITS FALSE NEIGHBOUR: 'it returns false'. Refute it at one input. -/
def codeApartWrong : ChangeSpec := { name := "codeApart", fn := fun _ => fun
  | [d1, d2] => { results := [.lit (.bool false)], args := [d1, d2] }
  | _ => none }
def CodeApartWrongFalsely : Prop := codeApartRow.holds Tryd.pinned (OpenSpec.ofChange codeApartWrong)

/-- 'brazierlaw19.CodeBytes': WHATEVER THE INPUT: true; the input reads as it did. -/
def codeBytesSpec : ChangeSpec := { name := "codeBytes", fn := fun _ => fun
  | [d1, d2] => { results := [.lit (.bool true)], args := [d1, d2] }
  | _ => none }
def codeBytesRow : OpenClaim := { program := "ytonkpojoniehlaadoor", sum := "84462a7bcce16ad1e8a8f0ce2f3c21c6d8a8df023f0655efd317a3edcfa6a5d8", func := "brazier/brazierlaw19.CodeBytes", spec := "codeBytes", unfollowed := true, recurses := true, named := ["brazier/code.rows"], apart := false, laid := [("brazier/code.rows", laid_brazier_code_rows)] }
def CodeBytesSaid : Prop := codeBytesRow.holds Tryd.pinned (OpenSpec.ofChange codeBytesSpec)

/-- ITS FALSE NEIGHBOUR: 'it returns false'. Refute it at one input. -/
def codeBytesWrong : ChangeSpec := { name := "codeBytes", fn := fun _ => fun
  | [d1, d2] => { results := [.lit (.bool false)], args := [d1, d2] }
  | _ => none }
def CodeBytesWrongFalsely : Prop := codeBytesRow.holds Tryd.pinned (OpenSpec.ofChange codeBytesWrong)

/- THE SECOND FORM. 'bulk': how many values and letters a reading holds, each counted each time it is reached (what is shared counts as often as it is met; a slice's spare places count too). A statement '..UptoSaid' is the law's where the arguments, and the package variables that the reading takes, are together of bulk at most 1048576: NARROWER than '..Said'. Prove '..Said' where nothing that the law and all that it calls make is longer than what came in: it says more and counts as full. Else prove '..UptoSaid'. A law counts once. -/
mutual
def uptoBulk {H : Type} : DataW H → Nat
  | .lit (.string bytes) => bytes.length + 1
  | .lit _ => 1
  | .nil => 1
  | .ptr d => uptoBulk d + 1
  | .slice elems spare => uptoBulkAll elems + uptoBulkAll spare + 1
  | .agg parts => uptoBulkAll parts + 1
  | .iface _ d => uptoBulk d + 1
  | .map entries => uptoBulkEntries entries + 1
  | .held _ => 1
def uptoBulkAll {H : Type} : List (DataW H) → Nat
  | [] => 0
  | d :: r => uptoBulk d + uptoBulkAll r
def uptoBulkEntries {H : Type} : List (Lit × DataW H) → Nat
  | [] => 0
  | x :: r => uptoBulkEntry x + uptoBulkEntries r
def uptoBulkEntry {H : Type} : Lit × DataW H → Nat
  | (.string bytes, d) => bytes.length + uptoBulk d + 1
  | (_, d) => uptoBulk d + 1
 end
def uptoSmall : (H : Type) → List (DataW H) → Bool := fun _ ds => decide (uptoBulkAll ds ≤ 1048576)
def OpenSpec.upto (s : _root_.Go.ChangeSpec) : _root_.Go.OpenSpec := { _root_.Go.OpenSpec.ofChange s with cond := some uptoSmall }

/-- 'brazierlaw17.AsmBack', WHERE WHAT IT READS IS OF BULK AT MOST 1048576: true; the input reads as it did. -/
def asmBackUptoRow : OpenClaim := { program := "ytonkpojoniehlaadoor", sum := "84462a7bcce16ad1e8a8f0ce2f3c21c6d8a8df023f0655efd317a3edcfa6a5d8", func := "brazier/brazierlaw17.AsmBack", spec := "asmBack", inPlace := ["internal/abi.NoEscape", "internal/bytealg.MakeNoZero", "internal/bytealg.IndexByteString", "internal/bytealg.IndexString"], unfollowed := true, recurses := true, named := ["internal/strconv.uint64pow10", "math/bits.deBruijn32tab", "math/bits.deBruijn64tab", "brazier/asm.mnemonics", "internal/bytealg.MaxLen", "strconv.ErrSyntax", "strconv.ErrRange"], apart := false, laid := [("math/bits.deBruijn32tab", laid_math_bits_deBruijn32tab), ("math/bits.deBruijn64tab", laid_math_bits_deBruijn64tab), ("internal/strconv.uint64pow10", laid_internal_strconv_uint64pow10), ("strconv.ErrRange", laid_strconv_ErrRange), ("strconv.ErrSyntax", laid_strconv_ErrSyntax), ("brazier/asm.mnemonics", laid_brazier_asm_mnemonics)], narrowed := true }
def AsmBackUptoSaid : Prop := asmBackUptoRow.holds Tryd.pinned (OpenSpec.upto asmBackSpec)

/-- 'brazierlaw19.CodeEncodes', WHERE WHAT IT READS IS OF BULK AT MOST 1048576: true; the input reads as it did. -/
def codeEncodesUptoRow : OpenClaim := { program := "ytonkpojoniehlaadoor", sum := "84462a7bcce16ad1e8a8f0ce2f3c21c6d8a8df023f0655efd317a3edcfa6a5d8", func := "brazier/brazierlaw19.CodeEncodes", spec := "codeEncodes", unfollowed := true, recurses := true, named := ["brazier/code.rows"], apart := false, laid := [("brazier/code.rows", laid_brazier_code_rows)], narrowed := true }
def CodeEncodesUptoSaid : Prop := codeEncodesUptoRow.holds Tryd.pinned (OpenSpec.upto codeEncodesSpec)

/-- 'brazierlaw19.CodeBack', WHERE WHAT IT READS IS OF BULK AT MOST 1048576: true; the input reads as it did. -/
def codeBackUptoRow : OpenClaim := { program := "ytonkpojoniehlaadoor", sum := "84462a7bcce16ad1e8a8f0ce2f3c21c6d8a8df023f0655efd317a3edcfa6a5d8", func := "brazier/brazierlaw19.CodeBack", spec := "codeBack", unfollowed := true, recurses := true, named := ["brazier/code.rows"], apart := false, laid := [("brazier/code.rows", laid_brazier_code_rows)], narrowed := true }
def CodeBackUptoSaid : Prop := codeBackUptoRow.holds Tryd.pinned (OpenSpec.upto codeBackSpec)

/-- 'brazierlaw19.CodeApart', WHERE WHAT IT READS IS OF BULK AT MOST 1048576: true; the input reads as it did. -/
def codeApartUptoRow : OpenClaim := { program := "ytonkpojoniehlaadoor", sum := "84462a7bcce16ad1e8a8f0ce2f3c21c6d8a8df023f0655efd317a3edcfa6a5d8", func := "brazier/brazierlaw19.CodeApart", spec := "codeApart", unfollowed := true, recurses := true, named := ["brazier/code.rows"], apart := false, laid := [("brazier/code.rows", laid_brazier_code_rows)], narrowed := true }
def CodeApartUptoSaid : Prop := codeApartUptoRow.holds Tryd.pinned (OpenSpec.upto codeApartSpec)

/-- 'brazierlaw19.CodeBytes', WHERE WHAT IT READS IS OF BULK AT MOST 1048576: true; the input reads as it did. -/
def codeBytesUptoRow : OpenClaim := { program := "ytonkpojoniehlaadoor", sum := "84462a7bcce16ad1e8a8f0ce2f3c21c6d8a8df023f0655efd317a3edcfa6a5d8", func := "brazier/brazierlaw19.CodeBytes", spec := "codeBytes", unfollowed := true, recurses := true, named := ["brazier/code.rows"], apart := false, laid := [("brazier/code.rows", laid_brazier_code_rows)], narrowed := true }
def CodeBytesUptoSaid : Prop := codeBytesUptoRow.holds Tryd.pinned (OpenSpec.upto codeBytesSpec)

end Rows
end Go.Proofs.YtonkpojoniehlaaDoor
