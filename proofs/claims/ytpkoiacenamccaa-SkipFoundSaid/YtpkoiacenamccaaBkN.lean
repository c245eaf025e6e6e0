/-
  The book of lists: the names that mark texts.
-/
import Derived.Test.YtpkoiacenamccaaBkA
import Derived.Test.YtpkoiacenamccaaLib
namespace Go.Proofs.Ytpkoiacenamccaa
open Go.RowKit

def bname (i k : Nat) : ByteArray := ⟨#[109, UInt8.ofNat (65 + i % 26), UInt8.ofNat (65 + i / 26 % 26), UInt8.ofNat (48 + k % 10), UInt8.ofNat (48 + k / 10 % 10), UInt8.ofNat (48 + k / 100 % 10)]⟩

end Go.Proofs.Ytpkoiacenamccaa
